/- Street as Lean data; rows of them, and the laws' helpers for these (written by gentype.py). -/
import Derived.Test.YtmcoeafkbpeelaaFlat
import Derived.Test.YtmcoeafkbpeelaaMem
import Derived.Deep.RegionHeld3
import Derived.Deep.DrawnRows
namespace Go.Proofs.Ytmcoeafkbpeelaa
open Go.RowKit
set_option linter.unusedVariables false

structure Stt where
  frm : Int
  to : Int
  secs : Int
deriving DecidableEq
def Stt.cells (p : Stt) : List Value := [.int .i64 p.frm, .int .i64 p.to, .int .i64 p.secs]
def Stt.val (p : Stt) : Value := .agg #[.int .i64 p.frm, .int .i64 p.to, .int .i64 p.secs]
def Stt.wf (p : Stt) : Prop := (Lit.int .i64 p.frm).wf = true ∧ (Lit.int .i64 p.to).wf = true ∧ (Lit.int .i64 p.secs).wf = true
def sttcells (ps : List Stt) : List Value := ps.flatMap Stt.cells
theorem sttcells_length (ps : List Stt) : (sttcells ps).length = ps.length * 3 := flat_length (f := Stt.cells) (fun _ => rfl) ps
theorem sttcells_take {ps : List Stt} {k : Nat} {p : Stt} (h : ps[k]? = some p) : sttcells (ps.take (k + 1)) = sttcells (ps.take k) ++ p.cells := by
  unfold sttcells
  rw [List.take_add_one, h, List.flatMap_append]
  simp
theorem sttcells_one (ps : List Stt) : ∀ u ∈ sttcells ps, u.oneCell' = true := by
  intro u hu
  obtain ⟨p, _, hp⟩ := List.mem_flatMap.1 hu
  simp only [Stt.cells, List.mem_cons, List.not_mem_nil, or_false] at hp
  rcases hp with rfl | rfl | rfl <;> rfl
theorem sttcells_put {ps : List Stt} {zs : List Value} {k : Nat} {p : Stt} (h : ps[k]? = some p) (hz : k * 3 + 3 ≤ zs.length) :
    (((sttcells (ps.take k) ++ zs.drop (k * 3)).set (k * 3) (.int .i64 p.frm)).set (k * 3 + 1) (.int .i64 p.to)).set (k * 3 + 2) (.int .i64 p.secs) = sttcells (ps.take (k + 1)) ++ zs.drop ((k + 1) * 3) := by
  obtain ⟨z0, z1, z2, hd⟩ := drop3 hz
  have hk := (List.getElem?_eq_some_iff.1 h).1
  rw [hd, set3 (by rw [sttcells_length, List.length_take]; omega), sttcells_take h]
  simp [Stt.cells, Nat.add_mul]
def SttsAt (w : World) (B : Nat) (A : Option Addr) (n : Nat) (ps : List Stt) : Prop := ps.length = n ∧ CellsAt w B A (n * 3) (sttcells ps)
theorem SttsAt.keep {w w' : World} {B : Nat} {A : Option Addr} {n : Nat} {ps : List Stt} (h : SttsAt w B A n ps) (hk : ∀ p : Addr, p.block < B → w'.cell? p = w.cell? p) : SttsAt w' B A n ps := ⟨h.1, h.2.keep hk⟩
theorem SttsAt.below {w w' : World} {B : Nat} {A : Option Addr} {n : Nat} {ps : List Stt} (h : SttsAt w B A n ps) (hb : Below B w w') : SttsAt w' B A n ps := ⟨h.1, h.2.below hb⟩
theorem SttsAt.up {w : World} {B B' : Nat} {A : Option Addr} {n : Nat} {ps : List Stt} (h : SttsAt w B A n ps) (hB : B ≤ B') : SttsAt w B' A n ps := ⟨h.1, h.2.up hB⟩
structure SttAt (w : World) (q : Addr) (p : Stt) : Prop where
  c0 : w.cell? q = some (.int .i64 p.frm)
  c1 : w.cell? ⟨q.block, q.off + 1, none⟩ = some (.int .i64 p.to)
  c2 : w.cell? ⟨q.block, q.off + 2, none⟩ = some (.int .i64 p.secs)
theorem SttAt.keep {w w' : World} {q : Addr} {p : Stt} (h : SttAt w q p) (e : w'.heap[q.block]? = w.heap[q.block]?) : SttAt w' q p :=
  ⟨(World.cell?_of_block e).trans h.c0, (World.cell?_of_block (a := ⟨q.block, q.off + 1, none⟩) e).trans h.c1, (World.cell?_of_block (a := ⟨q.block, q.off + 2, none⟩) e).trans h.c2⟩
theorem SttAt.below {w w' : World} {q : Addr} {p : Stt} {B : Nat} (h : SttAt w q p) (hb : Below B w w') (hB : q.block < B) : SttAt w' q p := h.keep (hb.block _ hB)
theorem stt_head {w : World} {g : Nat} {p : Stt} (h : SttAt w ⟨g, 0, none⟩ p) : w.cell? ⟨g, 0, none⟩ = some (.int .i64 p.frm) ∧ w.cell? ⟨g, 1, none⟩ = some (.int .i64 p.to) ∧ w.cell? ⟨g, 2, none⟩ = some (.int .i64 p.secs) := ⟨h.c0, h.c1, h.c2⟩
theorem stt_of_block {w : World} {g : Nat} {p : Stt} {E : TypeId} {fr : Nat × Nat} (h : w.heap[g]? = some (.cells #[.int .i64 p.frm, .int .i64 p.to, .int .i64 p.secs] E fr)) : SttAt w ⟨g, 0, none⟩ p :=
  ⟨by rw [cell_of_row w g 0 _ E fr h]; rfl, by rw [cell_of_row w g _ _ E fr h]; rfl, by rw [cell_of_row w g _ _ E fr h]; rfl⟩
theorem SttsAt.at {w : World} {B : Nat} {A : Option Addr} {n : Nat} {ps : List Stt} (h : SttsAt w B A n ps) {k : Nat} (hk : k < n) : ∃ ad p, A = some ad ∧ (ad.add (k * 3)).block < B ∧ ps[k]? = some p ∧ SttAt w (ad.add (k * 3)) p := by
  obtain ⟨hl, _, hc⟩ := h
  obtain ⟨ad, e, hb, hc⟩ := hc (by omega)
  have hp : ps[k]? = some ps[k] := List.getElem?_eq_getElem (by omega)
  have hg := fun i (hi : i < 3) => flat_get (f := Stt.cells) (fun _ => rfl) ps k i _ hp hi
  have ha := fun i (hi : 0 < i) => (add_add ad (k * 3) i).symm.trans (add_plusF _ i hi)
  refine ⟨ad, ps[k], e, by rw [add_block]; exact hb, hp, hc _ _ (hg 0 (by decide)), ?_, ?_⟩
  · rw [← ha 1 (by decide)]; exact hc _ _ (hg 1 (by decide))
  · rw [← ha 2 (by decide)]; exact hc _ _ (hg 2 (by decide))
theorem law_toStreet (p : Stt) (w : World) : Calls Try.prog 84 #[p.val] w fun e w' => e = .returned p.val ∧ Below w.heap.size w w' := by
  obtain ⟨a, b, c⟩ := p
  simp only [Stt.val]
  go_enter Try.func84, Try.ntmps84
  go_wp2
  refine bodyPost_ret (by rw [results_cell rfl]; go_simp; try rfl) rfl ?_
  exact ⟨rfl, ((((Below.refl _ _).alloc (Nat.le_refl _) _).alloc (by simp) _).alloc (by simp; omega) _)⟩
theorem info_stt : (Try.prog.info? 103).map (fun i => (i.zero, i.size, i.bytes)) = some (some (.agg #[.int .i64 0, .int .i64 0, .int .i64 0]), 3, 24) := by kernel_rfl
theorem made_stt (n : Nat) : (madeCells (Value.agg #[Value.int .i64 0, Value.int .i64 0, Value.int .i64 0]).cells (n * 3)).toList = sttcells (List.replicate n ⟨0, 0, 0⟩) := by
  have h : (Value.agg #[Value.int .i64 0, Value.int .i64 0, Value.int .i64 0]).cells = #[Value.int .i64 0, Value.int .i64 0, Value.int .i64 0] := rfl
  rw [h]
  apply List.ext_getElem?
  intro i
  simp only [madeCells, Array.toList_map, List.getElem?_map]
  by_cases hi : i < n * 3
  · have hg := flat_get (f := Stt.cells) (fun _ => rfl) (List.replicate n ⟨0, 0, 0⟩) (i / 3) (i % 3) ⟨0, 0, 0⟩ (by rw [List.getElem?_replicate, if_pos (by omega)]) (Nat.mod_lt _ (by decide))
    rw [show i / 3 * 3 + i % 3 = i by omega] at hg
    unfold sttcells
    rw [hg]
    have h4 : i % 3 = 0 ∨ i % 3 = 1 ∨ i % 3 = 2 := by omega
    rcases h4 with h4 | h4 | h4 <;> simp [hi, h4, Stt.cells]
  · rw [List.getElem?_eq_none (l := sttcells _) (by rw [sttcells_length, List.length_replicate]; omega)]
    simp [hi]
theorem law_toStreetS (A : Option Addr) (n c B : Nat) (ps : List Stt) (w : World) (h : SttsAt w B A n ps) (hB : B ≤ w.heap.size) (hn : n ≤ 4294967296) :
    Calls Try.prog 32 #[.slice A n c] w fun e w' => e = .returned (.slice (some ⟨w.heap.size, 0, none⟩) n n) ∧ w'.ownsRow w.heap.size 103 3 (.slice (some ⟨w.heap.size, 0, none⟩) n n) n (sttcells ps) ∧ Below w.heap.size w w' := by
  have hl := h.1
  go_enter Try.func32, Try.ntmps32
  go_wp2_with ((with_reducible show wpList _ _ _ _ _ _); refine wpList_mkR rfl _ _ _ rfl 103 _ 3 _ Try.underlying48 info_stt (by decide) (n : Int) (n : Int) n rfl rfl rfl rfl (by omega) ?_; intro w1 hown hgrow)
  go_loopw [4] (fun i wr => ∃ k : Nat, k ≤ n ∧ i = .int .i64 k ∧ wr.ownsRow w.heap.size 103 3 (.slice (some ⟨w.heap.size, 0, none⟩) n n) n (sttcells (ps.take k) ++ (sttcells (List.replicate n ⟨0, 0, 0⟩)).drop (k * 3)) ∧ Below w.heap.size w wr) (fun i _ => n - (intOf i).toNat)
  case atStart => exact ⟨0, Nat.zero_le _, rfl, by rw [made_stt] at hown; simpa [sttcells] using hown, below_grown hgrow⟩
  case round =>
    obtain ⟨k, hk, rfl, hown, hbl⟩ := hrel
    by_cases hlt : k < n
    · obtain ⟨ad, p, rfl, hab, hp, hq⟩ := h.at hlt
      obtain ⟨c0, c1, c2⟩ := hq.below hbl (by omega)
      go_wp2_with fail
      refine (law_toStreet p _).mono ?_
      rintro e w2 ⟨rfl, hb2⟩
      have hown2 := ownr_below hown hb2
      obtain ⟨x0, hx0⟩ := ownr_some hown2 (j := k * 3) (by omega)
      obtain ⟨x1, hx1⟩ := ownr_some hown2 (j := k * 3 + 1) (by omega)
      obtain ⟨x2, hx2⟩ := ownr_some hown2 (j := k * 3 + 2) (by omega)
      have f0 := World.ownsRow.frozenAt hown2
      have hst := (World.ownsRow.stored (World.ownsRow.stored (World.ownsRow.stored hown2 (k * 3) (.int .i64 p.frm)).1 (k * 3 + 1) (.int .i64 p.to)).1 (k * 3 + 2) (.int .i64 p.secs)).1
      rw [sttcells_put hp (by rw [sttcells_length, List.length_replicate]; omega)] at hst
      have HS := Lib.hid hst
      have HB := Lib.hid (hbl.trans (hb2.mono hbl.size))
      simp only [Stt.val]
      clear hown hown2 hbl hb2 hst hq
      go_wp2
      go_roundw
      case rel => exact ⟨k + 1, by omega, by go_num, HS.out, (((HB.out.setCell (Nat.le_refl _) _).setCell (Nat.le_refl _) _).setCell (Nat.le_refl _) _)⟩
      case measure => simp [intOf]; omega
    · obtain rfl : k = n := by omega
      rw [List.take_of_length_le (by omega), List.drop_of_length_le (by rw [sttcells_length, List.length_replicate]; exact Nat.le_refl _), List.append_nil] at hown
      go_wp2
      go_ret
      exact ⟨rfl, hown, hbl⟩
theorem law_eqStreet (p q : Stt) (w : World) : Calls Try.prog 87 #[p.val, q.val] w fun e w' => e = .returned (.bool (decide (p = q))) ∧ Below w.heap.size w w' := by
  obtain ⟨a, b, c⟩ := p
  obtain ⟨a', b', c'⟩ := q
  simp only [Stt.val, Stt.mk.injEq]
  have hb0 := ((Below.refl w.heap.size w).alloc (Nat.le_refl _) (.cells #[.int .i64 a, .int .i64 b, .int .i64 c] 103)).alloc (by simp) (.cells #[.int .i64 a', .int .i64 b', .int .i64 c'] 103)
  have HB := Lib.hid hb0
  clear hb0
  by_cases h0 : a = a'
  rotate_left
  · have e0 : (a != a') = true := by simpa using h0
    go_enter Try.func87, Try.ntmps87
    go_wp2
    go_ret
    exact ⟨by simp [h0], HB.out⟩
  subst h0
  by_cases h1 : b = b'
  rotate_left
  · have e0 : (b != b') = true := by simpa using h1
    go_enter Try.func87, Try.ntmps87
    go_wp2
    go_ret
    exact ⟨by simp [h1], HB.out⟩
  subst h1
  by_cases h2 : c = c'
  rotate_left
  · have e0 : (c != c') = true := by simpa using h2
    go_enter Try.func87, Try.ntmps87
    go_wp2
    go_ret
    exact ⟨by simp [h2], HB.out⟩
  subst h2
  go_enter Try.func87, Try.ntmps87
  go_wp2
  go_ret
  exact ⟨by simp, HB.out⟩
theorem same_stt (p : Stt) (w : World) : Calls Try.prog 87 #[p.val, p.val] w fun e w' => e = .returned (.bool true) ∧ Below w.heap.size w w' := (law_eqStreet p p w).mono fun e w' ⟨he, hb⟩ => ⟨by rw [he, decide_eq_true rfl], hb⟩
theorem law_eqStreetS (A : Option Addr) (n c B : Nat) (ps : List Stt) (A2 : Option Addr) (n2 c2 B2 : Nat) (qs : List Stt) (w : World) (h : SttsAt w B A n ps) (h2 : SttsAt w B2 A2 n2 qs) (hB : B ≤ w.heap.size) (hB2 : B2 ≤ w.heap.size) (hn : n ≤ 4294967296) (hn2 : n2 ≤ 4294967296) :
    Calls Try.prog 34 #[.slice A n c, .slice A2 n2 c2] w fun e w' => e = .returned (.bool (decide (ps = qs))) ∧ Below w.heap.size w w' := by
  have hl := h.1
  have hl2 := h2.1
  by_cases hne : n = n2
  · subst hne
    go_enter Try.func34, Try.ntmps34
    go_wp2
    go_loopw [5] (fun i wr => ∃ k : Nat, k ≤ n ∧ i = .int .i64 k ∧ ps.take k = qs.take k ∧ Below w.heap.size w wr) (fun i _ => n - (intOf i).toNat)
    case atStart => exact ⟨0, Nat.zero_le _, rfl, by simp, Below.refl _ _⟩
    case round =>
      obtain ⟨k, hk, rfl, hsame, hbl⟩ := hrel
      by_cases hlt : k < n
      · obtain ⟨ad, p, rfl, hab, hp, hq⟩ := h.at hlt
        obtain ⟨ad2, q, rfl, hab2, hp2, hq2⟩ := h2.at hlt
        replace hq := hq.below hbl (by omega)
        replace hq2 := hq2.below hbl (by omega)
        have i1 : (0 : Int) ≤ (k : Int) := by omega
        have i2 : (k : Int) < (n : Int) := by omega
        have hsz := hbl.size
        go_wp2
        go_region_held3 (fun W' => W'.cell? (ad.add (k * 3)) = some (.int .i64 p.frm) ∧ W'.cell? ⟨(ad.add (k * 3)).block, (ad.add (k * 3)).off + 1, none⟩ = some (.int .i64 p.to) ∧ W'.cell? ⟨(ad.add (k * 3)).block, (ad.add (k * 3)).off + 2, none⟩ = some (.int .i64 p.secs) ∧
            W'.cell? (ad2.add (k * 3)) = some (.int .i64 q.frm) ∧ W'.cell? ⟨(ad2.add (k * 3)).block, (ad2.add (k * 3)).off + 1, none⟩ = some (.int .i64 q.to) ∧ W'.cell? ⟨(ad2.add (k * 3)).block, (ad2.add (k * 3)).off + 2, none⟩ = some (.int .i64 q.secs))
          (first | exact ⟨hq.c0, hq.c1, hq.c2, hq2.c0, hq2.c1, hq2.c2⟩ | exact ⟨hr.c0, hr.c1, hr.c2, hr2.c0, hr2.c1, hr2.c2⟩ | fail "keep")
          (first
            | (go_at_call 87; refine (law_eqStreet p q _).mono ?_; rintro e w3 ⟨rfl, hb3⟩; have hb3' : Below wr.heap.size wr w3 := below_undrew hb3; have hr := hq.below hb3' (by omega); have hr2 := hq2.below hb3' (by omega)))
        have HB := Lib.hid (hbl.trans (hb3'.mono hsz))
        clear hq hq2 hr hr2 hb3 hb3' hbl
        by_cases hpq : p = q
        · have HT : Hid (ps.take (k + 1) = qs.take (k + 1)) := Lib.hid (by rw [List.take_add_one, List.take_add_one, hsame, hp, hp2, hpq])
          rw [decide_eq_true hpq]
          clear hsame hp hp2
          go_wp2
          go_roundw
          case rel => exact ⟨k + 1, by omega, by go_num, HT.out, HB.out⟩
          case measure => simp [intOf]; omega
        · have HN : Hid (decide (ps = qs) = false) := Lib.hid (by rw [decide_eq_false_iff_not]; rintro rfl; rw [hp] at hp2; exact hpq (Option.some.inj hp2))
          rw [decide_eq_false hpq]
          clear hsame hp hp2
          go_wp2
          go_ret
          exact ⟨by rw [HN.out]; rfl, HB.out⟩
      · obtain rfl : k = n := by omega
        have HN : Hid (decide (ps = qs) = true) := Lib.hid (by rw [decide_eq_true_eq]; rwa [List.take_of_length_le (by omega), List.take_of_length_le (by omega)] at hsame)
        go_wp2
        go_ret
        exact ⟨by rw [HN.out]; rfl, hbl⟩
  · have HN : Hid (decide (ps = qs) = false) := Lib.hid (by rw [decide_eq_false_iff_not]; rintro rfl; omega)
    go_enter Try.func34, Try.ntmps34
    go_wp2
    go_ret
    exact ⟨by rw [HN.out]; rfl, Below.refl _ _⟩
theorem sz_stt (A : Option Addr) (n c : Nat) (left : Int) (w : World) (hn : n ≤ 9223372036854775807) (hl : 0 ≤ left ∧ left ≤ 1048576) :
    Calls Try.prog 30 #[.slice A n c, .int .i64 left] w fun e w' => e = .returned (.int .i64 (if (n : Int) ≤ left then left - (n : Int) else -1)) ∧ w = w' := by
  obtain ⟨l1, l2⟩ := hl
  by_cases h : (n : Int) ≤ left
  · rw [if_pos h]
    go_enter Try.func30, Try.ntmps30
    go_wp2
    go_ret
    exact ⟨rfl, rfl⟩
  · rw [if_neg h]
    go_enter Try.func30, Try.ntmps30
    go_wp2
    go_ret
    exact ⟨rfl, rfl⟩
theorem law_markStreetS (A : Option Addr) (n c lo s : Nat) (vs : List Value) (w : World) (h : w.ownsRow lo 103 3 (.slice A n c) n vs) (hn : n ≤ 4294967296) (hs : s ≤ 70368744177664) :
    Calls Try.prog 35 #[.slice A n c, .int .i64 s] w fun e w' => e = .returned (.int .i64 ((s + n * 3 : Nat) : Int)) ∧ w.grownBy w' (Value.ownBlock (.slice A n c)) := by
  go_enter Try.func35, Try.ntmps35
  go_wp2
  go_loopw [1, 5] (fun x i wr => ∃ k : Nat, k ≤ n ∧ i = .int .i64 k ∧ x = .int .i64 ((s + k * 3 : Nat) : Int) ∧ (∃ vs', wr.ownsRow lo 103 3 (.slice A n c) n vs') ∧ w.grownBy wr (Value.ownBlock (.slice A n c))) (fun _ i _ => n - (intOf i).toNat)
  case atStart => exact ⟨0, Nat.zero_le _, rfl, by simp, ⟨vs, h⟩, World.grownBy.refl _ _⟩
  case round =>
    obtain ⟨k, hk, rfl, rfl, ⟨vs', hown⟩, hbl⟩ := hrel
    by_cases hlt : k < n
    · rcases ownr_shape hown with ⟨e, he⟩ | ⟨g, cap, e, hg, hgs, _⟩
      · omega
      injection e with e1 _ e3
      obtain rfl := e1
      obtain ⟨x0, hx0⟩ := ownr_some hown (j := k * 3) (by omega)
      obtain ⟨x1, hx1⟩ := ownr_some hown (j := k * 3 + 1) (by omega)
      obtain ⟨x2, hx2⟩ := ownr_some hown (j := k * 3 + 2) (by omega)
      have f0 := World.ownsRow.frozenAt hown
      have hst := (World.ownsRow.stored (World.ownsRow.stored (World.ownsRow.stored hown (k * 3) (.int .i64 ((s : Int) + (k : Int) * 3))).1 (k * 3 + 1) (.int .i64 ((s : Int) + (k : Int) * 3 + 1))).1 (k * 3 + 2) (.int .i64 ((s : Int) + (k : Int) * 3 + 1 + 1))).1
      have HS := Lib.hid hst
      have HG := Lib.hid hbl
      clear hown hbl hst
      go_wp2
      go_roundw
      case rel => exact ⟨k + 1, by omega, by go_num, by go_num, ⟨_, HS.out⟩, (only_setCell (only_setCell (only_setCell HG.out _ _) _ _) _ _)⟩
      case measure => simp [intOf]; omega
    · obtain rfl : k = n := by omega
      go_wp2
      go_ret
      exact ⟨rfl, hbl⟩
structure SlStt (w : World) (A : Option Addr) (n c : Nat) (ps : List Stt) : Prop where
  pths : SttsAt w w.heap.size A n ps
  bare : A = none → n = 0 ∧ c = 0
  small : n ≤ 4294967296
  cap : n ≤ c ∧ c ≤ maxLen
  wf : ∀ p ∈ ps, p.wf
theorem SlStt.len {w : World} {A : Option Addr} {n c : Nat} {ps : List Stt} (h : SlStt w A n c ps) : ps.length = n := h.pths.1
theorem SlStt.below {w w' : World} {A : Option Addr} {n c : Nat} {ps : List Stt} (h : SlStt w A n c ps) (hb : Below w.heap.size w w') : SlStt w' A n c ps :=
  ⟨(h.pths.below hb).up hb.size, h.bare, h.small, h.cap, h.wf⟩
structure OwStt (E : TypeId) (w : World) (lo hi : Nat) (v : Value) (ps : List Stt) : Prop where
  own : w.ownsRow lo E 3 v ps.length (sttcells ps)
  lt : ∀ g, v.ownBlock = some g → g < hi
  top : hi ≤ w.heap.size
theorem OwStt.new {E : TypeId} {w : World} {lo : Nat} {v : Value} {ps : List Stt} (h : w.ownsRow lo E 3 v ps.length (sttcells ps)) : OwStt E w lo w.heap.size v ps := ⟨h, fun g e => (ownr_block h g e).2, Nat.le_refl _⟩
theorem OwStt.below {E : TypeId} {w w' : World} {lo hi : Nat} {v : Value} {ps : List Stt} (h : OwStt E w lo hi v ps) (hb : Below w.heap.size w w') : OwStt E w' lo hi v ps := ⟨ownr_below h.own hb, h.lt, Nat.le_trans h.top hb.size⟩
theorem OwStt.ints {E : TypeId} {w : World} {lo hi : Nat} {A : Option Addr} {n c : Nat} {ps : List Stt} (h : OwStt E w lo hi (.slice A n c) ps) : SttsAt w w.heap.size A n ps := by
  have hn := ownr_len h.own
  subst hn
  exact ⟨rfl, ownr_cells h.own⟩
theorem OwStt.sl {E : TypeId} {w : World} {lo hi : Nat} {A : Option Addr} {n c : Nat} {ps : List Stt} (h : OwStt E w lo hi (.slice A n c) ps) (hn : n ≤ 4294967296) (hw : ∀ p ∈ ps, p.wf) : SlStt w A n c ps :=
  ⟨h.ints, ownr_nilcap h.own, hn, ownr_cap h.own, hw⟩
theorem OwStt.part {E : TypeId} {w w' : World} {lo hi l h' : Nat} {v : Value} {ps : List Stt} (h : OwStt E w lo hi v ps) (hp : Part l h' w w') (hd : hi ≤ l ∨ h' ≤ lo) : OwStt E w' lo hi v ps := by
  refine ⟨⟨h.own.1, ?_⟩, h.lt, Nat.le_trans h.top hp.size⟩
  rcases h.own.2 with h2 | ⟨g, cap, cur, rfl, hl, hg, r⟩
  · exact .inl h2
  · have hlt := h.lt g rfl
    have htop := h.top
    exact .inr ⟨g, cap, cur, rfl, hl, (hp.block g (by omega) (by omega)).trans hg, r⟩
theorem to_stt (A : Option Addr) (n c B : Nat) (ps : List Stt) (w : World) (h : SttsAt w B A n ps) (hB : B ≤ w.heap.size) (hn : n ≤ 1048576) :
    Calls Try.prog 32 #[.slice A n c] w fun e w' => e = .returned (.slice (some ⟨w.heap.size, 0, none⟩) n n) ∧ w'.ownsRow w.heap.size 103 3 (.slice (some ⟨w.heap.size, 0, none⟩) n n) ps.length (sttcells ps) ∧ Below w.heap.size w w' := by
  have hl := h.1
  refine (law_toStreetS A n c B ps w h hB (by omega)).mono fun e w' ⟨h1, h2, h3⟩ => ⟨h1, ?_, h3⟩
  rw [hl]
  exact h2
theorem eqs_stt (A : Option Addr) (n c : Nat) (ps : List Stt) (A2 : Option Addr) (n2 c2 : Nat) (w : World) (h : SttsAt w w.heap.size A n ps) (h2 : SttsAt w w.heap.size A2 n2 ps) (hn : n ≤ 1048576) (hn2 : n2 ≤ 1048576) :
    Calls Try.prog 34 #[.slice A n c, .slice A2 n2 c2] w fun e w' => e = .returned (.bool true) ∧ Below w.heap.size w w' :=
  (law_eqStreetS A n c _ ps A2 n2 c2 _ ps w h h2 (Nat.le_refl _) (Nat.le_refl _) (by omega) (by omega)).mono fun e w' ⟨he, hb⟩ => ⟨by rw [he, decide_eq_true rfl], hb⟩
theorem marked_stt (A : Option Addr) (n c lo hi s : Nat) (ps : List Stt) (w : World) (h : OwStt 103 w lo hi (.slice A n c) ps) (hn : n ≤ 1048576) (hs : s ≤ 70368744177664) :
    Calls Try.prog 35 #[.slice A n c, .int .i64 s] w fun e w' => e = .returned (.int .i64 ((s + n * 3 : Nat) : Int)) ∧ Part lo hi w w' := by
  have hl := ownr_len h.own
  refine (law_markStreetS A n c lo s (sttcells ps) w (by have h2 := h.own; rw [← hl] at h2; exact h2) (by omega) hs).mono fun e w' ⟨he, hg⟩ => ⟨he, ⟨hg.os, hg.tape, hg.output, hg.size, fun i hi' hd => hg.block i hi' fun e => ?_⟩⟩
  have h1 := h.lt i e.symm
  have h2 := (ownr_block h.own i e.symm).1
  omega
end Go.Proofs.Ytmcoeafkbpeelaa
