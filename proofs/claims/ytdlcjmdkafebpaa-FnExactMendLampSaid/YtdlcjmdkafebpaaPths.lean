/- Rows of paths: the laws' helpers. -/
import Derived.Test.YtdlcjmdkafebpaaPath
import Derived.Test.YtdlcjmdkafebpaaMem
import Derived.Deep.RegionHeld3
import Derived.Deep.DrawnRows
namespace Go.Proofs.Ytdlcjmdkafebpaa
open Go.RowKit
set_option linter.unusedVariables false

/-- the cells of a list of paths. -/
def pcells (ps : List Pth) : List Value := ps.flatMap Pth.cells
theorem pcells_length (ps : List Pth) : (pcells ps).length = ps.length * 4 := flat_length (f := Pth.cells) (fun _ => rfl) ps
theorem pcells_take {ps : List Pth} {k : Nat} {p : Pth} (h : ps[k]? = some p) : pcells (ps.take (k + 1)) = pcells (ps.take k) ++ p.cells := by
  unfold pcells
  rw [List.take_add_one, h, List.flatMap_append]
  simp
theorem pcells_one (ps : List Pth) : ∀ u ∈ pcells ps, u.oneCell' = true := by
  intro u hu
  obtain ⟨p, _, hp⟩ := List.mem_flatMap.1 hu
  simp only [Pth.cells, List.mem_cons, List.not_mem_nil, or_false] at hp
  rcases hp with rfl | rfl | rfl | rfl <;> rfl
/-- one path stored behind those before it. -/
theorem pcells_put {ps : List Pth} {zs : List Value} {k : Nat} {p : Pth} (h : ps[k]? = some p) (hz : k * 4 + 4 ≤ zs.length) :
    ((((pcells (ps.take k) ++ zs.drop (k * 4)).set (k * 4) (.int .i64 p.id)).set (k * 4 + 1) (.int .i64 p.kind)).set (k * 4 + 2) (.int .i64 p.frm)).set (k * 4 + 3) (.int .i64 p.to) = pcells (ps.take (k + 1)) ++ zs.drop ((k + 1) * 4) := by
  obtain ⟨z0, z1, z2, z3, hd⟩ := drop4 hz
  have hk := (List.getElem?_eq_some_iff.1 h).1
  rw [hd, set4 (by rw [pcells_length, List.length_take]; omega), pcells_take h]
  simp [Pth.cells, Nat.add_mul]
/-- A slice value that holds these paths, in a block below B. -/
def PthsAt (w : World) (B : Nat) (A : Option Addr) (n : Nat) (ps : List Pth) : Prop := ps.length = n ∧ CellsAt w B A (n * 4) (pcells ps)
theorem PthsAt.keep {w w' : World} {B : Nat} {A : Option Addr} {n : Nat} {ps : List Pth} (h : PthsAt w B A n ps) (hk : ∀ p : Addr, p.block < B → w'.cell? p = w.cell? p) : PthsAt w' B A n ps := ⟨h.1, h.2.keep hk⟩
theorem PthsAt.below {w w' : World} {B : Nat} {A : Option Addr} {n : Nat} {ps : List Pth} (h : PthsAt w B A n ps) (hb : Below B w w') : PthsAt w' B A n ps := ⟨h.1, h.2.below hb⟩
theorem PthsAt.up {w : World} {B B' : Nat} {A : Option Addr} {n : Nat} {ps : List Pth} (h : PthsAt w B A n ps) (hB : B ≤ B') : PthsAt w B' A n ps := ⟨h.1, h.2.up hB⟩
/-- a path lies at q. -/
structure PthAt (w : World) (q : Addr) (p : Pth) : Prop where
  c0 : w.cell? q = some (.int .i64 p.id)
  c1 : w.cell? ⟨q.block, q.off + 1, none⟩ = some (.int .i64 p.kind)
  c2 : w.cell? ⟨q.block, q.off + 2, none⟩ = some (.int .i64 p.frm)
  c3 : w.cell? ⟨q.block, q.off + 3, none⟩ = some (.int .i64 p.to)
theorem PthAt.keep {w w' : World} {q : Addr} {p : Pth} (h : PthAt w q p) (e : w'.heap[q.block]? = w.heap[q.block]?) : PthAt w' q p :=
  ⟨(World.cell?_of_block e).trans h.c0, (World.cell?_of_block (a := ⟨q.block, q.off + 1, none⟩) e).trans h.c1, (World.cell?_of_block (a := ⟨q.block, q.off + 2, none⟩) e).trans h.c2, (World.cell?_of_block (a := ⟨q.block, q.off + 3, none⟩) e).trans h.c3⟩
theorem PthAt.below {w w' : World} {q : Addr} {p : Pth} {B : Nat} (h : PthAt w q p) (hb : Below B w w') (hB : q.block < B) : PthAt w' q p := h.keep (hb.block _ hB)
theorem add_plus (q : Addr) (i : Nat) (h : 0 < i) : q.add i = ⟨q.block, q.off + i, none⟩ := by unfold Addr.add; rw [if_neg (by omega)]
theorem PthsAt.at {w : World} {B : Nat} {A : Option Addr} {n : Nat} {ps : List Pth} (h : PthsAt w B A n ps) {k : Nat} (hk : k < n) : ∃ ad p, A = some ad ∧ (ad.add (k * 4)).block < B ∧ ps[k]? = some p ∧ PthAt w (ad.add (k * 4)) p := by
  obtain ⟨hl, _, hc⟩ := h
  obtain ⟨ad, e, hb, hc⟩ := hc (by omega)
  have hp : ps[k]? = some ps[k] := List.getElem?_eq_getElem (by omega)
  have hg := fun i (hi : i < 4) => flat_get (f := Pth.cells) (fun _ => rfl) ps k i _ hp hi
  have ha := fun i (hi : 0 < i) => (add_add ad (k * 4) i).symm.trans (add_plus _ i hi)
  refine ⟨ad, ps[k], e, by rw [add_block]; exact hb, hp, hc _ _ (hg 0 (by decide)), ?_, ?_, ?_⟩
  · rw [← ha 1 (by decide)]; exact hc _ _ (hg 1 (by decide))
  · rw [← ha 2 (by decide)]; exact hc _ _ (hg 2 (by decide))
  · rw [← ha 3 (by decide)]; exact hc _ _ (hg 3 (by decide))
theorem info_pth : (Try.prog.info? 120).map (fun i => (i.zero, i.size, i.bytes)) = some (some (.agg #[.int .i64 0, .int .i64 0, .int .i64 0, .int .i64 0]), 4, 32) := by kernel_rfl
theorem made_pth (n : Nat) : (madeCells (Value.agg #[Value.int .i64 0, Value.int .i64 0, Value.int .i64 0, Value.int .i64 0]).cells (n * 4)).toList = pcells (List.replicate n ⟨0, 0, 0, 0⟩) := by
  have h : (Value.agg #[Value.int .i64 0, Value.int .i64 0, Value.int .i64 0, Value.int .i64 0]).cells = #[Value.int .i64 0, Value.int .i64 0, Value.int .i64 0, Value.int .i64 0] := rfl
  rw [h]
  apply List.ext_getElem?
  intro i
  have hr : (pcells (List.replicate n ⟨0, 0, 0, 0⟩)) = List.replicate (n * 4) (Value.int .i64 0) := by
    induction n with
    | zero => rfl
    | succ n ih =>
      have e : (n + 1) * 4 = n * 4 + 1 + 1 + 1 + 1 := by omega
      unfold pcells at ih ⊢
      rw [List.replicate_succ, List.flatMap_cons, ih, e, List.replicate_succ, List.replicate_succ, List.replicate_succ, List.replicate_succ]
      rfl
  rw [hr]
  simp only [madeCells, Array.toList_map, List.getElem?_map, List.getElem?_replicate]
  by_cases hi : i < n * 4
  · have h4 : i % 4 = 0 ∨ i % 4 = 1 ∨ i % 4 = 2 ∨ i % 4 = 3 := by omega
    rcases h4 with h4 | h4 | h4 | h4 <;> simp [hi, h4]
  · simp [hi]
theorem law_toPath (p : Pth) (w : World) : Calls Try.prog 87 #[p.val] w fun e w' => e = .returned p.val ∧ Below w.heap.size w w' := by
  obtain ⟨a, b, c, d⟩ := p
  simp only [Pth.val]
  go_enter Try.func87, Try.ntmps87
  go_wp2
  refine bodyPost_ret (by rw [results_cell rfl]; go_simp; try rfl) rfl ?_
  exact ⟨rfl, ((((Below.refl _ _).alloc (Nat.le_refl _) _).alloc (by simp) _).alloc (by simp; omega) _)⟩
theorem law_toPathS (A : Option Addr) (n c B : Nat) (ps : List Pth) (w : World) (h : PthsAt w B A n ps) (hB : B ≤ w.heap.size) (hn : n ≤ 4294967296) :
    Calls Try.prog 29 #[.slice A n c] w fun e w' => e = .returned (.slice (some ⟨w.heap.size, 0, none⟩) n n) ∧ w'.ownsRow w.heap.size 120 4 (.slice (some ⟨w.heap.size, 0, none⟩) n n) n (pcells ps) ∧ Below w.heap.size w w' := by
  have hl := h.1
  go_enter Try.func29, Try.ntmps29
  go_wp2_with ((with_reducible show wpList _ _ _ _ _ _); refine wpList_mkR rfl _ _ _ rfl 120 _ 4 _ Try.underlying43 info_pth (by decide) (n : Int) (n : Int) n rfl rfl rfl rfl (by omega) ?_; intro w1 hown hgrow)
  go_loopw [4] (fun i wr => ∃ k : Nat, k ≤ n ∧ i = .int .i64 k ∧ wr.ownsRow w.heap.size 120 4 (.slice (some ⟨w.heap.size, 0, none⟩) n n) n (pcells (ps.take k) ++ (pcells (List.replicate n ⟨0, 0, 0, 0⟩)).drop (k * 4)) ∧ Below w.heap.size w wr) (fun i _ => n - (intOf i).toNat)
  case atStart => exact ⟨0, Nat.zero_le _, rfl, by rw [made_pth] at hown; simpa [pcells] using hown, below_grown hgrow⟩
  case round =>
    obtain ⟨k, hk, rfl, hown, hbl⟩ := hrel
    by_cases hlt : k < n
    · obtain ⟨ad, p, rfl, hab, hp, hq⟩ := h.at hlt
      obtain ⟨c0, c1, c2, c3⟩ := hq.below hbl (by omega)
      go_wp2_with fail
      refine (law_toPath p _).mono ?_
      rintro e w2 ⟨rfl, hb2⟩
      have hown2 := ownr_below hown hb2
      obtain ⟨x0, hx0⟩ := ownr_some hown2 (j := k * 4) (by omega)
      obtain ⟨x1, hx1⟩ := ownr_some hown2 (j := k * 4 + 1) (by omega)
      obtain ⟨x2, hx2⟩ := ownr_some hown2 (j := k * 4 + 2) (by omega)
      obtain ⟨x3, hx3⟩ := ownr_some hown2 (j := k * 4 + 3) (by omega)
      have f0 := World.ownsRow.frozenAt hown2
      have hst := (World.ownsRow.stored (World.ownsRow.stored (World.ownsRow.stored (World.ownsRow.stored hown2 (k * 4) (.int .i64 p.id)).1 (k * 4 + 1) (.int .i64 p.kind)).1 (k * 4 + 2) (.int .i64 p.frm)).1 (k * 4 + 3) (.int .i64 p.to)).1
      rw [pcells_put hp (by rw [pcells_length, List.length_replicate]; omega)] at hst
      have HS := Lib.hid hst
      have HB := Lib.hid (hbl.trans (hb2.mono hbl.size))
      simp only [Pth.val]
      clear hown hown2 hbl hb2 hst hq
      go_wp2
      go_roundw
      case rel => exact ⟨k + 1, by omega, by go_num, HS.out, (((HB.out.setCell (Nat.le_refl _) _).setCell (Nat.le_refl _) _).setCell (Nat.le_refl _) _).setCell (Nat.le_refl _) _⟩
      case measure => simp [intOf]; omega
    · obtain rfl : k = n := by omega
      rw [List.take_of_length_le (by omega), List.drop_of_length_le (by rw [pcells_length, List.length_replicate]; exact Nat.le_refl _), List.append_nil] at hown
      go_wp2
      go_ret
      exact ⟨rfl, hown, hbl⟩
theorem law_eqPath (p q : Pth) (w : World) : Calls Try.prog 91 #[p.val, q.val] w fun e w' => e = .returned (.bool (decide (p = q))) ∧ Below w.heap.size w w' := by
  obtain ⟨a, b, c, d⟩ := p
  obtain ⟨a', b', c', d'⟩ := q
  simp only [Pth.val, Pth.mk.injEq]
  have hb0 := ((Below.refl w.heap.size w).alloc (Nat.le_refl _) (.cells #[.int .i64 a, .int .i64 b, .int .i64 c, .int .i64 d] 120)).alloc (by simp) (.cells #[.int .i64 a', .int .i64 b', .int .i64 c', .int .i64 d'] 120)
  have HB := Lib.hid hb0
  clear hb0
  by_cases h0 : a = a'
  rotate_left
  · have e0 : (a != a') = true := by simpa using h0
    go_enter Try.func91, Try.ntmps91
    go_wp2
    go_ret
    exact ⟨by simp [h0], HB.out⟩
  subst h0
  by_cases h1 : b = b'
  rotate_left
  · have e0 : (b != b') = true := by simpa using h1
    go_enter Try.func91, Try.ntmps91
    go_wp2
    go_ret
    exact ⟨by simp [h1], HB.out⟩
  subst h1
  by_cases h2 : c = c'
  rotate_left
  · have e0 : (c != c') = true := by simpa using h2
    go_enter Try.func91, Try.ntmps91
    go_wp2
    go_ret
    exact ⟨by simp [h2], HB.out⟩
  subst h2
  by_cases h3 : d = d'
  rotate_left
  · have e0 : (d != d') = true := by simpa using h3
    go_enter Try.func91, Try.ntmps91
    go_wp2
    go_ret
    exact ⟨by simp [h3], HB.out⟩
  subst h3
  go_enter Try.func91, Try.ntmps91
  go_wp2
  go_ret
  exact ⟨by simp, HB.out⟩
theorem law_eqPathS (A : Option Addr) (n c B : Nat) (ps : List Pth) (A2 : Option Addr) (n2 c2 B2 : Nat) (qs : List Pth) (w : World) (h : PthsAt w B A n ps) (h2 : PthsAt w B2 A2 n2 qs) (hB : B ≤ w.heap.size) (hB2 : B2 ≤ w.heap.size) (hn : n ≤ 4294967296) (hn2 : n2 ≤ 4294967296) :
    Calls Try.prog 31 #[.slice A n c, .slice A2 n2 c2] w fun e w' => e = .returned (.bool (decide (ps = qs))) ∧ Below w.heap.size w w' := by
  have hl := h.1
  have hl2 := h2.1
  by_cases hne : n = n2
  · subst hne
    go_enter Try.func31, Try.ntmps31
    go_wp2
    go_loopw [5] (fun i wr => ∃ k : Nat, k ≤ n ∧ i = .int .i64 k ∧ ps.take k = qs.take k ∧ Below w.heap.size w wr) (fun i _ => n - (intOf i).toNat)
    case atStart => exact ⟨0, Nat.zero_le _, rfl, by simp, Below.refl _ _⟩
    case round =>
      obtain ⟨k, hk, rfl, hsame, hbl⟩ := hrel
      by_cases hlt : k < n
      · obtain ⟨ad, p, rfl, hab, hp, hq⟩ := h.at hlt
        obtain ⟨ad2, q, rfl, hab2, hp2, hq2⟩ := h2.at hlt
        replace hq := hq.below hbl (by omega)
        replace hq2 := hq2.below hbl (by omega)
        have i1 : (0 : Int) ≤ (k : Int) := by omega
        have i2 : (k : Int) < (n : Int) := by omega
        have hsz := hbl.size
        go_wp2
        go_region_held3 (fun W' => W'.cell? (ad.add (k * 4)) = some (.int .i64 p.id) ∧ W'.cell? ⟨(ad.add (k * 4)).block, (ad.add (k * 4)).off + 1, none⟩ = some (.int .i64 p.kind) ∧ W'.cell? ⟨(ad.add (k * 4)).block, (ad.add (k * 4)).off + 2, none⟩ = some (.int .i64 p.frm) ∧ W'.cell? ⟨(ad.add (k * 4)).block, (ad.add (k * 4)).off + 3, none⟩ = some (.int .i64 p.to) ∧
            W'.cell? (ad2.add (k * 4)) = some (.int .i64 q.id) ∧ W'.cell? ⟨(ad2.add (k * 4)).block, (ad2.add (k * 4)).off + 1, none⟩ = some (.int .i64 q.kind) ∧ W'.cell? ⟨(ad2.add (k * 4)).block, (ad2.add (k * 4)).off + 2, none⟩ = some (.int .i64 q.frm) ∧ W'.cell? ⟨(ad2.add (k * 4)).block, (ad2.add (k * 4)).off + 3, none⟩ = some (.int .i64 q.to))
          (first | exact ⟨hq.c0, hq.c1, hq.c2, hq.c3, hq2.c0, hq2.c1, hq2.c2, hq2.c3⟩ | exact ⟨hr.c0, hr.c1, hr.c2, hr.c3, hr2.c0, hr2.c1, hr2.c2, hr2.c3⟩ | fail "keep")
          (first
            | (go_at_call 91; refine (law_eqPath p q _).mono ?_; rintro e w3 ⟨rfl, hb3⟩; have hb3' : Below wr.heap.size wr w3 := below_undrew hb3; have hr := hq.below hb3' (by omega); have hr2 := hq2.below hb3' (by omega)))
        have HB := Lib.hid (hbl.trans (hb3'.mono hsz))
        clear hq hq2 hr hr2 hb3 hb3' hbl
        by_cases hpq : p = q
        · have HT : Hid (ps.take (k + 1) = qs.take (k + 1)) := Lib.hid (by rw [List.take_add_one, List.take_add_one, hsame, hp, hp2, hpq])
          rw [decide_eq_true hpq]
          clear hsame hp hp2
          go_wp2
          go_roundw
          case rel => exact ⟨k + 1, by omega, by go_num, HT.out, HB.out⟩
          case measure => simp [intOf]; omega
        · have HN : Hid (decide (ps = qs) = false) := Lib.hid (by rw [decide_eq_false_iff_not]; rintro rfl; rw [hp] at hp2; exact hpq (Option.some.inj hp2))
          rw [decide_eq_false hpq]
          clear hsame hp hp2
          go_wp2
          go_ret
          exact ⟨by rw [HN.out]; rfl, HB.out⟩
      · obtain rfl : k = n := by omega
        have HN : Hid (decide (ps = qs) = true) := Lib.hid (by rw [decide_eq_true_eq]; rwa [List.take_of_length_le (by omega), List.take_of_length_le (by omega)] at hsame)
        go_wp2
        go_ret
        exact ⟨by rw [HN.out]; rfl, hbl⟩
  · have HN : Hid (decide (ps = qs) = false) := Lib.hid (by rw [decide_eq_false_iff_not]; rintro rfl; omega)
    go_enter Try.func31, Try.ntmps31
    go_wp2
    go_ret
    exact ⟨by rw [HN.out]; rfl, Below.refl _ _⟩
theorem law_szPathS (A : Option Addr) (n c : Nat) (w : World) (hn : n ≤ 9223372036854775807) :
    Calls Try.prog 27 #[.slice A n c, .int .i64 1048576] w fun e w' => e = .returned (.int .i64 (if n ≤ 1048576 then 1048576 - (n : Int) else -1)) ∧ w = w' := by
  by_cases h : n ≤ 1048576
  · rw [if_pos h]
    go_enter Try.func27, Try.ntmps27
    go_wp2
    go_ret
    exact ⟨rfl, rfl⟩
  · rw [if_neg h]
    go_enter Try.func27, Try.ntmps27
    go_wp2
    go_ret
    exact ⟨rfl, rfl⟩
theorem law_markPathS (A : Option Addr) (n c lo s : Nat) (vs : List Value) (w : World) (h : w.ownsRow lo 120 4 (.slice A n c) n vs) (hn : n ≤ 4294967296) (hs : s ≤ 70368744177664) :
    Calls Try.prog 38 #[.slice A n c, .int .i64 s] w fun e w' => e = .returned (.int .i64 ((s + n * 4 : Nat) : Int)) ∧ w.grownBy w' (Value.ownBlock (.slice A n c)) := by
  go_enter Try.func38, Try.ntmps38
  go_wp2
  go_loopw [1, 5] (fun x i wr => ∃ k : Nat, k ≤ n ∧ i = .int .i64 k ∧ x = .int .i64 ((s + k * 4 : Nat) : Int) ∧ (∃ vs', wr.ownsRow lo 120 4 (.slice A n c) n vs') ∧ w.grownBy wr (Value.ownBlock (.slice A n c))) (fun _ i _ => n - (intOf i).toNat)
  case atStart => exact ⟨0, Nat.zero_le _, rfl, by simp, ⟨vs, h⟩, World.grownBy.refl _ _⟩
  case round =>
    obtain ⟨k, hk, rfl, rfl, ⟨vs', hown⟩, hbl⟩ := hrel
    by_cases hlt : k < n
    · rcases ownr_shape hown with ⟨e, he⟩ | ⟨g, cap, e, hg, hgs, _⟩
      · omega
      injection e with e1 _ e3
      obtain rfl := e1
      obtain ⟨x0, hx0⟩ := ownr_some hown (j := k * 4) (by omega)
      obtain ⟨x1, hx1⟩ := ownr_some hown (j := k * 4 + 1) (by omega)
      obtain ⟨x2, hx2⟩ := ownr_some hown (j := k * 4 + 2) (by omega)
      obtain ⟨x3, hx3⟩ := ownr_some hown (j := k * 4 + 3) (by omega)
      have f0 := World.ownsRow.frozenAt hown
      have hst := (World.ownsRow.stored (World.ownsRow.stored (World.ownsRow.stored (World.ownsRow.stored hown (k * 4) (.int .i64 ((s : Int) + (k : Int) * 4))).1 (k * 4 + 1) (.int .i64 ((s : Int) + (k : Int) * 4 + 1))).1 (k * 4 + 2) (.int .i64 ((s : Int) + (k : Int) * 4 + 1 + 1))).1 (k * 4 + 3) (.int .i64 ((s : Int) + (k : Int) * 4 + 1 + 1 + 1))).1
      have HS := Lib.hid hst
      have HG := Lib.hid hbl
      clear hown hbl hst
      go_wp2
      go_roundw
      case rel => exact ⟨k + 1, by omega, by go_num, by go_num, ⟨_, HS.out⟩, only_setCell (only_setCell (only_setCell (only_setCell HG.out _ _) _ _) _ _) _ _⟩
      case measure => simp [intOf]; omega
    · obtain rfl : k = n := by omega
      go_wp2
      go_ret
      exact ⟨rfl, hbl⟩
end Go.Proofs.Ytdlcjmdkafebpaa
