/- Texts of one chain, put together: Wnt LngW Bit PathI InterI ConfI Bsy PthM LawBsy. -/
import Derived.Deep.RegionHeld3
import Derived.Deep.DrawnRows
import Derived.Deep.RegionWith
import Derived.Laws.BitsLemmas
import Derived.BigQuiet
import Derived.Deep.QuietTactic
import Derived.Test.YtlpkafhapmkkfaaBndlC
set_option linter.unusedSimpArgs false
/- Want as Lean data; rows of them, and the laws' helpers for these (written by gentype.py). -/
namespace Go.Proofs.Ytlpkafhapmkkfaa
open Go.RowKit
set_option linter.unusedVariables false

structure Wnt where
  path : Int
  wait : Int
deriving DecidableEq
def Wnt.cells (p : Wnt) : List Value := [.int .i64 p.path, .int .i64 p.wait]
def Wnt.val (p : Wnt) : Value := .agg #[.int .i64 p.path, .int .i64 p.wait]
def Wnt.wf (p : Wnt) : Prop := (Lit.int .i64 p.path).wf = true ∧ (Lit.int .i64 p.wait).wf = true
def wntcells (ps : List Wnt) : List Value := ps.flatMap Wnt.cells
theorem wntcells_length (ps : List Wnt) : (wntcells ps).length = ps.length * 2 := flat_length (f := Wnt.cells) (fun _ => rfl) ps
theorem wntcells_take {ps : List Wnt} {k : Nat} {p : Wnt} (h : ps[k]? = some p) : wntcells (ps.take (k + 1)) = wntcells (ps.take k) ++ p.cells := by
  unfold wntcells
  rw [List.take_add_one, h, List.flatMap_append]
  simp
theorem wntcells_one (ps : List Wnt) : ∀ u ∈ wntcells ps, u.oneCell' = true := by
  intro u hu
  obtain ⟨p, _, hp⟩ := List.mem_flatMap.1 hu
  simp only [Wnt.cells, List.mem_cons, List.not_mem_nil, or_false] at hp
  rcases hp with rfl | rfl <;> rfl
theorem wntcells_put {ps : List Wnt} {zs : List Value} {k : Nat} {p : Wnt} (h : ps[k]? = some p) (hz : k * 2 + 2 ≤ zs.length) :
    ((wntcells (ps.take k) ++ zs.drop (k * 2)).set (k * 2) (.int .i64 p.path)).set (k * 2 + 1) (.int .i64 p.wait) = wntcells (ps.take (k + 1)) ++ zs.drop ((k + 1) * 2) := by
  obtain ⟨z0, z1, hd⟩ := drop2 hz
  have hk := (List.getElem?_eq_some_iff.1 h).1
  rw [hd, set2 (by rw [wntcells_length, List.length_take]; omega), wntcells_take h]
  simp [Wnt.cells, Nat.add_mul]
def WntsAt (w : World) (B : Nat) (A : Option Addr) (n : Nat) (ps : List Wnt) : Prop := ps.length = n ∧ CellsAt w B A (n * 2) (wntcells ps)
theorem WntsAt.keep {w w' : World} {B : Nat} {A : Option Addr} {n : Nat} {ps : List Wnt} (h : WntsAt w B A n ps) (hk : ∀ p : Addr, p.block < B → w'.cell? p = w.cell? p) : WntsAt w' B A n ps := ⟨h.1, h.2.keep hk⟩
theorem WntsAt.below {w w' : World} {B : Nat} {A : Option Addr} {n : Nat} {ps : List Wnt} (h : WntsAt w B A n ps) (hb : Below B w w') : WntsAt w' B A n ps := ⟨h.1, h.2.below hb⟩
theorem WntsAt.up {w : World} {B B' : Nat} {A : Option Addr} {n : Nat} {ps : List Wnt} (h : WntsAt w B A n ps) (hB : B ≤ B') : WntsAt w B' A n ps := ⟨h.1, h.2.up hB⟩
structure WntAt (w : World) (q : Addr) (p : Wnt) : Prop where
  c0 : w.cell? q = some (.int .i64 p.path)
  c1 : w.cell? ⟨q.block, q.off + 1, none⟩ = some (.int .i64 p.wait)
theorem WntAt.keep {w w' : World} {q : Addr} {p : Wnt} (h : WntAt w q p) (e : w'.heap[q.block]? = w.heap[q.block]?) : WntAt w' q p :=
  ⟨(World.cell?_of_block e).trans h.c0, (World.cell?_of_block (a := ⟨q.block, q.off + 1, none⟩) e).trans h.c1⟩
theorem WntAt.below {w w' : World} {q : Addr} {p : Wnt} {B : Nat} (h : WntAt w q p) (hb : Below B w w') (hB : q.block < B) : WntAt w' q p := h.keep (hb.block _ hB)
theorem wnt_head {w : World} {g : Nat} {p : Wnt} (h : WntAt w ⟨g, 0, none⟩ p) : w.cell? ⟨g, 0, none⟩ = some (.int .i64 p.path) ∧ w.cell? ⟨g, 1, none⟩ = some (.int .i64 p.wait) := ⟨h.c0, h.c1⟩
theorem wnt_of_block {w : World} {g : Nat} {p : Wnt} {E : TypeId} {fr : Nat × Nat} (h : w.heap[g]? = some (.cells #[.int .i64 p.path, .int .i64 p.wait] E fr)) : WntAt w ⟨g, 0, none⟩ p :=
  ⟨by rw [cell_of_row w g 0 _ E fr h]; rfl, by rw [cell_of_row w g _ _ E fr h]; rfl⟩
theorem WntsAt.at {w : World} {B : Nat} {A : Option Addr} {n : Nat} {ps : List Wnt} (h : WntsAt w B A n ps) {k : Nat} (hk : k < n) : ∃ ad p, A = some ad ∧ (ad.add (k * 2)).block < B ∧ ps[k]? = some p ∧ WntAt w (ad.add (k * 2)) p := by
  obtain ⟨hl, _, hc⟩ := h
  obtain ⟨ad, e, hb, hc⟩ := hc (by omega)
  have hp : ps[k]? = some ps[k] := List.getElem?_eq_getElem (by omega)
  have hg := fun i (hi : i < 2) => flat_get (f := Wnt.cells) (fun _ => rfl) ps k i _ hp hi
  have ha := fun i (hi : 0 < i) => (add_add ad (k * 2) i).symm.trans (add_plusF _ i hi)
  refine ⟨ad, ps[k], e, by rw [add_block]; exact hb, hp, hc _ _ (hg 0 (by decide)), ?_⟩
  · rw [← ha 1 (by decide)]; exact hc _ _ (hg 1 (by decide))
theorem law_toWant (p : Wnt) (w : World) : Calls Try.prog 73 #[p.val] w fun e w' => e = .returned p.val ∧ Below w.heap.size w w' := by
  obtain ⟨a, b⟩ := p
  simp only [Wnt.val]
  go_enter Try.func73, Try.ntmps73
  go_wp2
  refine bodyPost_ret (by rw [results_cell rfl]; go_simp; try rfl) rfl ?_
  exact ⟨rfl, ((((Below.refl _ _).alloc (Nat.le_refl _) _).alloc (by simp) _).alloc (by simp; omega) _)⟩
theorem info_wnt : (Try.prog.info? 95).map (fun i => (i.zero, i.size, i.bytes)) = some (some (.agg #[.int .i64 0, .int .i64 0]), 2, 16) := by kernel_rfl
theorem made_wnt (n : Nat) : (madeCells (Value.agg #[Value.int .i64 0, Value.int .i64 0]).cells (n * 2)).toList = wntcells (List.replicate n ⟨0, 0⟩) := by
  have h : (Value.agg #[Value.int .i64 0, Value.int .i64 0]).cells = #[Value.int .i64 0, Value.int .i64 0] := rfl
  rw [h]
  apply List.ext_getElem?
  intro i
  simp only [madeCells, Array.toList_map, List.getElem?_map]
  by_cases hi : i < n * 2
  · have hg := flat_get (f := Wnt.cells) (fun _ => rfl) (List.replicate n ⟨0, 0⟩) (i / 2) (i % 2) ⟨0, 0⟩ (by rw [List.getElem?_replicate, if_pos (by omega)]) (Nat.mod_lt _ (by decide))
    rw [show i / 2 * 2 + i % 2 = i by omega] at hg
    unfold wntcells
    rw [hg]
    have h4 : i % 2 = 0 ∨ i % 2 = 1 := by omega
    rcases h4 with h4 | h4 <;> simp [hi, h4, Wnt.cells]
  · rw [List.getElem?_eq_none (l := wntcells _) (by rw [wntcells_length, List.length_replicate]; omega)]
    simp [hi]
theorem law_toWantS (A : Option Addr) (n c B : Nat) (ps : List Wnt) (w : World) (h : WntsAt w B A n ps) (hB : B ≤ w.heap.size) (hn : n ≤ 4294967296) :
    Calls Try.prog 30 #[.slice A n c] w fun e w' => e = .returned (.slice (some ⟨w.heap.size, 0, none⟩) n n) ∧ w'.ownsRow w.heap.size 95 2 (.slice (some ⟨w.heap.size, 0, none⟩) n n) n (wntcells ps) ∧ Below w.heap.size w w' := by
  have hl := h.1
  go_enter Try.func30, Try.ntmps30
  go_wp2_with ((with_reducible show wpList _ _ _ _ _ _); refine wpList_mkR rfl _ _ _ rfl 95 _ 2 _ Try.underlying48 info_wnt (by decide) (n : Int) (n : Int) n rfl rfl rfl rfl (by omega) ?_; intro w1 hown hgrow)
  go_loopw [4] (fun i wr => ∃ k : Nat, k ≤ n ∧ i = .int .i64 k ∧ wr.ownsRow w.heap.size 95 2 (.slice (some ⟨w.heap.size, 0, none⟩) n n) n (wntcells (ps.take k) ++ (wntcells (List.replicate n ⟨0, 0⟩)).drop (k * 2)) ∧ Below w.heap.size w wr) (fun i _ => n - (intOf i).toNat)
  case atStart => exact ⟨0, Nat.zero_le _, rfl, by rw [made_wnt] at hown; simpa [wntcells] using hown, below_grown hgrow⟩
  case round =>
    obtain ⟨k, hk, rfl, hown, hbl⟩ := hrel
    by_cases hlt : k < n
    · obtain ⟨ad, p, rfl, hab, hp, hq⟩ := h.at hlt
      obtain ⟨c0, c1⟩ := hq.below hbl (by omega)
      go_wp2_with fail
      refine (law_toWant p _).mono ?_
      rintro e w2 ⟨rfl, hb2⟩
      have hown2 := ownr_below hown hb2
      obtain ⟨x0, hx0⟩ := ownr_some hown2 (j := k * 2) (by omega)
      obtain ⟨x1, hx1⟩ := ownr_some hown2 (j := k * 2 + 1) (by omega)
      have f0 := World.ownsRow.frozenAt hown2
      have hst := (World.ownsRow.stored (World.ownsRow.stored hown2 (k * 2) (.int .i64 p.path)).1 (k * 2 + 1) (.int .i64 p.wait)).1
      rw [wntcells_put hp (by rw [wntcells_length, List.length_replicate]; omega)] at hst
      have HS := Lib.hid hst
      have HB := Lib.hid (hbl.trans (hb2.mono hbl.size))
      simp only [Wnt.val]
      clear hown hown2 hbl hb2 hst hq
      go_wp2
      go_roundw
      case rel => exact ⟨k + 1, by omega, by go_num, HS.out, ((HB.out.setCell (Nat.le_refl _) _).setCell (Nat.le_refl _) _)⟩
      case measure => simp [intOf]; omega
    · obtain rfl : k = n := by omega
      rw [List.take_of_length_le (by omega), List.drop_of_length_le (by rw [wntcells_length, List.length_replicate]; exact Nat.le_refl _), List.append_nil] at hown
      go_wp2
      go_ret
      exact ⟨rfl, hown, hbl⟩
theorem law_eqWant (p q : Wnt) (w : World) : Calls Try.prog 81 #[p.val, q.val] w fun e w' => e = .returned (.bool (decide (p = q))) ∧ Below w.heap.size w w' := by
  obtain ⟨a, b⟩ := p
  obtain ⟨a', b'⟩ := q
  simp only [Wnt.val, Wnt.mk.injEq]
  have hb0 := ((Below.refl w.heap.size w).alloc (Nat.le_refl _) (.cells #[.int .i64 a, .int .i64 b] 95)).alloc (by simp) (.cells #[.int .i64 a', .int .i64 b'] 95)
  have HB := Lib.hid hb0
  clear hb0
  by_cases h0 : a = a'
  rotate_left
  · have e0 : (a != a') = true := by simpa using h0
    go_enter Try.func81, Try.ntmps81
    go_wp2
    go_ret
    exact ⟨by simp [h0], HB.out⟩
  subst h0
  by_cases h1 : b = b'
  rotate_left
  · have e0 : (b != b') = true := by simpa using h1
    go_enter Try.func81, Try.ntmps81
    go_wp2
    go_ret
    exact ⟨by simp [h1], HB.out⟩
  subst h1
  go_enter Try.func81, Try.ntmps81
  go_wp2
  go_ret
  exact ⟨by simp, HB.out⟩
theorem same_wnt (p : Wnt) (w : World) : Calls Try.prog 81 #[p.val, p.val] w fun e w' => e = .returned (.bool true) ∧ Below w.heap.size w w' := (law_eqWant p p w).mono fun e w' ⟨he, hb⟩ => ⟨by rw [he, decide_eq_true rfl], hb⟩
theorem law_eqWantS (A : Option Addr) (n c B : Nat) (ps : List Wnt) (A2 : Option Addr) (n2 c2 B2 : Nat) (qs : List Wnt) (w : World) (h : WntsAt w B A n ps) (h2 : WntsAt w B2 A2 n2 qs) (hB : B ≤ w.heap.size) (hB2 : B2 ≤ w.heap.size) (hn : n ≤ 4294967296) (hn2 : n2 ≤ 4294967296) :
    Calls Try.prog 32 #[.slice A n c, .slice A2 n2 c2] w fun e w' => e = .returned (.bool (decide (ps = qs))) ∧ Below w.heap.size w w' := by
  have hl := h.1
  have hl2 := h2.1
  by_cases hne : n = n2
  · subst hne
    go_enter Try.func32, Try.ntmps32
    go_wp2
    go_loopw [5] (fun i wr => ∃ k : Nat, k ≤ n ∧ i = .int .i64 k ∧ ps.take k = qs.take k ∧ Below w.heap.size w wr) (fun i _ => n - (intOf i).toNat)
    case atStart => exact ⟨0, Nat.zero_le _, rfl, by simp, Below.refl _ _⟩
    case round =>
      obtain ⟨k, hk, rfl, hsame, hbl⟩ := hrel
      by_cases hlt : k < n
      · obtain ⟨ad, p, rfl, hab, hp, hq⟩ := h.at hlt
        obtain ⟨ad2, q, rfl, hab2, hp2, hq2⟩ := h2.at hlt
        replace hq := hq.below hbl (by omega)
        replace hq2 := hq2.below hbl (by omega)
        have i1 : (0 : Int) ≤ (k : Int) := by omega
        have i2 : (k : Int) < (n : Int) := by omega
        have hsz := hbl.size
        go_wp2
        go_region_held3 (fun W' => W'.cell? (ad.add (k * 2)) = some (.int .i64 p.path) ∧ W'.cell? ⟨(ad.add (k * 2)).block, (ad.add (k * 2)).off + 1, none⟩ = some (.int .i64 p.wait) ∧
            W'.cell? (ad2.add (k * 2)) = some (.int .i64 q.path) ∧ W'.cell? ⟨(ad2.add (k * 2)).block, (ad2.add (k * 2)).off + 1, none⟩ = some (.int .i64 q.wait))
          (first | exact ⟨hq.c0, hq.c1, hq2.c0, hq2.c1⟩ | exact ⟨hr.c0, hr.c1, hr2.c0, hr2.c1⟩ | fail "keep")
          (first
            | (go_at_call 81; refine (law_eqWant p q _).mono ?_; rintro e w3 ⟨rfl, hb3⟩; have hb3' : Below wr.heap.size wr w3 := below_undrew hb3; have hr := hq.below hb3' (by omega); have hr2 := hq2.below hb3' (by omega)))
        have HB := Lib.hid (hbl.trans (hb3'.mono hsz))
        clear hq hq2 hr hr2 hb3 hb3' hbl
        by_cases hpq : p = q
        · have HT : Hid (ps.take (k + 1) = qs.take (k + 1)) := Lib.hid (by rw [List.take_add_one, List.take_add_one, hsame, hp, hp2, hpq])
          rw [decide_eq_true hpq]
          clear hsame hp hp2
          go_wp2
          go_roundw
          case rel => exact ⟨k + 1, by omega, by go_num, HT.out, HB.out⟩
          case measure => simp [intOf]; omega
        · have HN : Hid (decide (ps = qs) = false) := Lib.hid (by rw [decide_eq_false_iff_not]; rintro rfl; rw [hp] at hp2; exact hpq (Option.some.inj hp2))
          rw [decide_eq_false hpq]
          clear hsame hp hp2
          go_wp2
          go_ret
          exact ⟨by rw [HN.out]; rfl, HB.out⟩
      · obtain rfl : k = n := by omega
        have HN : Hid (decide (ps = qs) = true) := Lib.hid (by rw [decide_eq_true_eq]; rwa [List.take_of_length_le (by omega), List.take_of_length_le (by omega)] at hsame)
        go_wp2
        go_ret
        exact ⟨by rw [HN.out]; rfl, hbl⟩
  · have HN : Hid (decide (ps = qs) = false) := Lib.hid (by rw [decide_eq_false_iff_not]; rintro rfl; omega)
    go_enter Try.func32, Try.ntmps32
    go_wp2
    go_ret
    exact ⟨by rw [HN.out]; rfl, Below.refl _ _⟩
theorem sz_wnt (A : Option Addr) (n c : Nat) (left : Int) (w : World) (hn : n ≤ 9223372036854775807) (hl : 0 ≤ left ∧ left ≤ 1048576) :
    Calls Try.prog 28 #[.slice A n c, .int .i64 left] w fun e w' => e = .returned (.int .i64 (if (n : Int) ≤ left then left - (n : Int) else -1)) ∧ w = w' := by
  obtain ⟨l1, l2⟩ := hl
  by_cases h : (n : Int) ≤ left
  · rw [if_pos h]
    go_enter Try.func28, Try.ntmps28
    go_wp2
    go_ret
    exact ⟨rfl, rfl⟩
  · rw [if_neg h]
    go_enter Try.func28, Try.ntmps28
    go_wp2
    go_ret
    exact ⟨rfl, rfl⟩
structure SlWnt (w : World) (A : Option Addr) (n c : Nat) (ps : List Wnt) : Prop where
  pths : WntsAt w w.heap.size A n ps
  bare : A = none → n = 0 ∧ c = 0
  small : n ≤ 4294967296
  cap : n ≤ c ∧ c ≤ maxLen
  wf : ∀ p ∈ ps, p.wf
theorem SlWnt.len {w : World} {A : Option Addr} {n c : Nat} {ps : List Wnt} (h : SlWnt w A n c ps) : ps.length = n := h.pths.1
theorem SlWnt.below {w w' : World} {A : Option Addr} {n c : Nat} {ps : List Wnt} (h : SlWnt w A n c ps) (hb : Below w.heap.size w w') : SlWnt w' A n c ps :=
  ⟨(h.pths.below hb).up hb.size, h.bare, h.small, h.cap, h.wf⟩
structure OwWnt (E : TypeId) (w : World) (lo hi : Nat) (v : Value) (ps : List Wnt) : Prop where
  own : w.ownsRow lo E 2 v ps.length (wntcells ps)
  lt : ∀ g, v.ownBlock = some g → g < hi
  top : hi ≤ w.heap.size
theorem OwWnt.new {E : TypeId} {w : World} {lo : Nat} {v : Value} {ps : List Wnt} (h : w.ownsRow lo E 2 v ps.length (wntcells ps)) : OwWnt E w lo w.heap.size v ps := ⟨h, fun g e => (ownr_block h g e).2, Nat.le_refl _⟩
theorem OwWnt.below {E : TypeId} {w w' : World} {lo hi : Nat} {v : Value} {ps : List Wnt} (h : OwWnt E w lo hi v ps) (hb : Below w.heap.size w w') : OwWnt E w' lo hi v ps := ⟨ownr_below h.own hb, h.lt, Nat.le_trans h.top hb.size⟩
theorem OwWnt.ints {E : TypeId} {w : World} {lo hi : Nat} {A : Option Addr} {n c : Nat} {ps : List Wnt} (h : OwWnt E w lo hi (.slice A n c) ps) : WntsAt w w.heap.size A n ps := by
  have hn := ownr_len h.own
  subst hn
  exact ⟨rfl, ownr_cells h.own⟩
theorem OwWnt.sl {E : TypeId} {w : World} {lo hi : Nat} {A : Option Addr} {n c : Nat} {ps : List Wnt} (h : OwWnt E w lo hi (.slice A n c) ps) (hn : n ≤ 4294967296) (hw : ∀ p ∈ ps, p.wf) : SlWnt w A n c ps :=
  ⟨h.ints, ownr_nilcap h.own, hn, ownr_cap h.own, hw⟩
theorem OwWnt.part {E : TypeId} {w w' : World} {lo hi l h' : Nat} {v : Value} {ps : List Wnt} (h : OwWnt E w lo hi v ps) (hp : Part l h' w w') (hd : hi ≤ l ∨ h' ≤ lo) : OwWnt E w' lo hi v ps := by
  refine ⟨⟨h.own.1, ?_⟩, h.lt, Nat.le_trans h.top hp.size⟩
  rcases h.own.2 with h2 | ⟨g, cap, cur, rfl, hl, hg, r⟩
  · exact .inl h2
  · have hlt := h.lt g rfl
    have htop := h.top
    exact .inr ⟨g, cap, cur, rfl, hl, (hp.block g (by omega) (by omega)).trans hg, r⟩
theorem to_wnt (A : Option Addr) (n c B : Nat) (ps : List Wnt) (w : World) (h : WntsAt w B A n ps) (hB : B ≤ w.heap.size) (hn : n ≤ 1048576) :
    Calls Try.prog 30 #[.slice A n c] w fun e w' => e = .returned (.slice (some ⟨w.heap.size, 0, none⟩) n n) ∧ w'.ownsRow w.heap.size 95 2 (.slice (some ⟨w.heap.size, 0, none⟩) n n) ps.length (wntcells ps) ∧ Below w.heap.size w w' := by
  have hl := h.1
  refine (law_toWantS A n c B ps w h hB (by omega)).mono fun e w' ⟨h1, h2, h3⟩ => ⟨h1, ?_, h3⟩
  rw [hl]
  exact h2
theorem eqs_wnt (A : Option Addr) (n c : Nat) (ps : List Wnt) (A2 : Option Addr) (n2 c2 : Nat) (w : World) (h : WntsAt w w.heap.size A n ps) (h2 : WntsAt w w.heap.size A2 n2 ps) (hn : n ≤ 1048576) (hn2 : n2 ≤ 1048576) :
    Calls Try.prog 32 #[.slice A n c, .slice A2 n2 c2] w fun e w' => e = .returned (.bool true) ∧ Below w.heap.size w w' :=
  (law_eqWantS A n c _ ps A2 n2 c2 _ ps w h h2 (Nat.le_refl _) (Nat.le_refl _) (by omega) (by omega)).mono fun e w' ⟨he, hb⟩ => ⟨by rw [he, decide_eq_true rfl], hb⟩
end Go.Proofs.Ytlpkafhapmkkfaa

/- Chapter 37: LongestWait: program and model. -/
namespace Go.Proofs.Ytlpkafhapmkkfaa
open Go.RowKit
set_option linter.unusedVariables false

def wntA (zs : List Wnt) (k : Nat) : Wnt := zs.getD k ⟨0, 0⟩
theorem wntA_some {zs : List Wnt} {k : Nat} {x : Wnt} (h : zs[k]? = some x) : wntA zs k = x := by unfold wntA; rw [List.getD_eq_getElem?_getD, h]; rfl
def gtW (m x : Wnt) : Wnt := if x.wait > m.wait then x else m
/-- the first one with the greatest Wait of the first one and of the first k. -/
def gtK (zs : List Wnt) : Nat → Wnt
  | 0 => wntA zs 0
  | k + 1 => gtW (gtK zs k) (wntA zs k)
def longW (zs : List Wnt) : Int := if zs.length = 0 then 0 else (gtK zs zs.length).wait
theorem gtK_one (zs : List Wnt) : gtK zs 1 = wntA zs 0 := by
  show gtW (wntA zs 0) (wntA zs 0) = _
  unfold gtW
  split <;> rfl
theorem gtK_yes {zs : List Wnt} {k : Nat} {x : Wnt} (hx : zs[k]? = some x) (h : x.wait > (gtK zs k).wait) : gtK zs (k + 1) = x := by show gtW _ _ = _; unfold gtW; rw [wntA_some hx, if_pos h]
theorem gtK_no {zs : List Wnt} {k : Nat} {x : Wnt} (hx : zs[k]? = some x) (h : ¬ x.wait > (gtK zs k).wait) : gtK zs (k + 1) = gtK zs k := by show gtW _ _ = _; unfold gtW; rw [wntA_some hx, if_neg h]
/-- what the model carries. -/
def bestW (zs : List Wnt) (k : Nat) : Int := if k = 0 then 0 else (gtK zs k).wait
theorem bestW_pos {zs : List Wnt} {k : Nat} (h : k ≠ 0) : bestW zs k = (gtK zs k).wait := by unfold bestW; rw [if_neg h]
end Go.Proofs.Ytlpkafhapmkkfaa

/- Bit operations on numbers that are not negative; a path packed into one number. No program. -/
namespace Go.Proofs.Ytlpkafhapmkkfaa
open Go.RowKit

theorem i64_wraps (n : Int) (h0 : 0 ≤ n) (h1 : n < 2 ^ 63) : IntKind.i64.wrap n = n := by
  have e : (2 : Int) ^ 63 = 9223372036854775808 := by decide
  rw [e] at h1
  rw [IntKind.wrap_i64]
  omega
theorem and3 (x : Int) (h0 : 0 ≤ x) (h1 : x < 65536) : bits .and .i64 x 3 = x % 4 := by
  have e : (2 : Int) ^ 63 = 9223372036854775808 := by decide
  have h := bits_mask .i64 63 (by decide) i64_wraps 2 (by decide) x h0 (by rw [e]; omega)
  have e2 : ((2 : Int) ^ 2 - 1) = 3 := by decide
  have e3 : ((2 : Int) ^ 2) = 4 := by decide
  rw [e2, e3] at h
  exact h
theorem or4 (x y : Int) (h0 : 0 ≤ x) (h1 : x < 65536) (hx : x % 4 = 0) (hy : 0 ≤ y) (hy1 : y < 4) : bits .or .i64 x y = x + y := by
  have e : (2 : Int) ^ 63 = 9223372036854775808 := by decide
  have e3 : ((2 : Int) ^ 2) = 4 := by decide
  exact bits_join .i64 63 (by decide) i64_wraps 2 x y h0 (by rw [e3]; exact hx) (by rw [e]; omega) hy (by rw [e3]; exact hy1) (by rw [e]; omega)
/-- a valid path as one number, in bits. -/
def packN (p : Pth) : Int := if isP p then ((p.id * 4 + p.kind) * 4 + p.frm) * 4 + p.to else 0
theorem packN_no {p : Pth} (h : isP p = false) : packN p = 0 := by unfold packN; rw [h]; rfl
theorem packN_yes {p : Pth} (h : isP p = true) : packN p = ((p.id * 4 + p.kind) * 4 + p.frm) * 4 + p.to ∧ 64 ≤ packN p ∧ packN p < 2048 := by
  have hf := isP_facts p h
  have e : packN p = ((p.id * 4 + p.kind) * 4 + p.frm) * 4 + p.to := by unfold packN; rw [h]; rfl
  refine ⟨e, ?_, ?_⟩ <;> rw [e] <;> omega
theorem packN_to {p : Pth} (h : isP p = true) : packN p % 4 = p.to := by have := isP_facts p h; rw [(packN_yes h).1]; omega
theorem packN_frm {p : Pth} (h : isP p = true) : packN p / 4 % 4 = p.frm := by have := isP_facts p h; rw [(packN_yes h).1]; omega
theorem packN_kind {p : Pth} (h : isP p = true) : packN p / 16 % 4 = p.kind := by have := isP_facts p h; rw [(packN_yes h).1]; omega
theorem packN_id {p : Pth} (h : isP p = true) : packN p / 64 = p.id := by have := isP_facts p h; rw [(packN_yes h).1]; omega
end Go.Proofs.Ytlpkafhapmkkfaa

/- Chapter 4's functions of the program: valid paths, places, packed paths. -/
namespace Go.Proofs.Ytlpkafhapmkkfaa
open Go.RowKit
set_option linter.unusedVariables false

theorem impl_isArm (a : Int) (w : World) : Calls Try.prog 131 #[.int .i64 a] w fun e w' => e = .returned (.bool (inB a 0 3)) ∧ w = w' := by
  go_enter Try.func131, Try.ntmps131
  go_wp2_with fail
  refine (impl_InRange _ _ _ _).mono ?_
  rintro e w1 ⟨rfl, rfl⟩
  go_wp2
  go_ret
  exact ⟨rfl, rfl⟩
theorem impl_IsPath (p : Pth) (w : World) : Calls Try.prog 119 #[p.val] w fun e w' => e = .returned (.bool (isP p)) ∧ Below w.heap.size w w' := by
  obtain ⟨a, b, c, d⟩ := p
  simp only [Pth.val]
  have HI : Hid (isP ⟨a, b, c, d⟩ = (inB a 1 20 && inB b 1 3 && inB c 0 3 && inB d 0 3 && (decide (c = d) == decide (b = 2)))) := Lib.hid rfl
  go_enter Try.func119, Try.ntmps119
  go_wp2_with fail
  refine (impl_InRange _ _ _ _).mono ?_
  rintro e w1 ⟨rfl, rfl⟩
  cases h0 : inB a 1 20
  · rw [h0] at HI
    go_wp2
    go_ret
    exact ⟨by rw [HI.out]; simp, (Below.refl _ _).alloc (Nat.le_refl _) _⟩
  · rw [h0] at HI
    go_wp2_with fail
    refine (impl_InRange _ _ _ _).mono ?_
    rintro e w1 ⟨rfl, rfl⟩
    cases h1 : inB b 1 3
    · rw [h1] at HI
      go_wp2
      go_ret
      exact ⟨by rw [HI.out]; simp, (Below.refl _ _).alloc (Nat.le_refl _) _⟩
    · rw [h1] at HI
      go_wp2_with fail
      refine (impl_isArm _ _).mono ?_
      rintro e w1 ⟨rfl, rfl⟩
      cases h2 : inB c 0 3
      · rw [h2] at HI
        go_wp2
        go_ret
        exact ⟨by rw [HI.out]; simp, (Below.refl _ _).alloc (Nat.le_refl _) _⟩
      · rw [h2] at HI
        go_wp2_with fail
        refine (impl_isArm _ _).mono ?_
        rintro e w1 ⟨rfl, rfl⟩
        cases h3 : inB d 0 3
        · rw [h3] at HI
          go_wp2
          go_ret
          exact ⟨by rw [HI.out]; first | (simp; done) | (simp; rfl), (Below.refl _ _).alloc (Nat.le_refl _) _⟩
        · rw [h3] at HI
          go_wp2
          go_ret
          exact ⟨by rw [HI.out]; first | (simp; done) | (simp; rfl), (Below.refl _ _).alloc (Nat.le_refl _) _⟩
end Go.Proofs.Ytlpkafhapmkkfaa

/- Interleave: the program. -/
namespace Go.Proofs.Ytlpkafhapmkkfaa
open Go.RowKit
set_option linter.unusedVariables false

/-- four different places. -/
def diff4 (a b c d : Int) : Bool := decide (a ≠ b ∧ a ≠ c ∧ a ≠ d ∧ b ≠ c ∧ b ≠ d ∧ c ≠ d) && inB a 0 7 && inB b 0 7 && inB c 0 7 && inB d 0 7
theorem inter_diff (a b c d : Int) : inter a b c d = (diff4 a b c d && (betw a c b != betw a d b)) := rfl
theorem diff4_four {a b c d : Int} (h : okNs [a, b, c, d] 4) : diff4 a b c d = true := by
  obtain ⟨⟨h0, h1, h2, h3⟩, h4⟩ := okNs_four h
  unfold diff4
  rw [h0, h1, h2, h3, decide_eq_true h4]
  rfl
theorem diff4_eq {a b c d : Int} {j k : Nat} (hk : k < j) (hj : j < 4) (h : [a, b, c, d].getD j 0 = [a, b, c, d].getD k 0) : diff4 a b c d = false := by
  have h4 : ¬ (a ≠ b ∧ a ≠ c ∧ a ≠ d ∧ b ≠ c ∧ b ≠ d ∧ c ≠ d) := by
    rintro ⟨e1, e2, e3, e4, e5, e6⟩
    match j, k, hk, hj with
    | 1, 0, _, _ => exact e1 (by simpa using h.symm)
    | 2, 0, _, _ => exact e2 (by simpa using h.symm)
    | 2, 1, _, _ => exact e4 (by simpa using h.symm)
    | 3, 0, _, _ => exact e3 (by simpa using h.symm)
    | 3, 1, _, _ => exact e5 (by simpa using h.symm)
    | 3, 2, _, _ => exact e6 (by simpa using h.symm)
  unfold diff4
  rw [decide_eq_false h4]
  simp
theorem diff4_out {a b c d : Int} {j : Nat} (hj : j < 4) (h : inB ([a, b, c, d].getD j 0) 0 7 = false) : diff4 a b c d = false := by
  unfold diff4
  match j, hj with
  | 0, _ => simp at h; simp [h]
  | 1, _ => simp at h; simp [h]
  | 2, _ => simp at h; simp [h]
  | 3, _ => simp at h; simp [h]
/-- which places the first k of these numbers have taken. -/
def takenL (l : List Int) (k : Nat) : List Value := (List.range 8).map fun (j : Nat) => Value.bool (decide ((j : Int) ∈ l.take k))
theorem takenL_length (l : List Int) (k : Nat) : (takenL l k).length = 8 := by simp [takenL]
theorem takenL_at (l : List Int) (k j : Nat) (h : j < 8) : (takenL l k)[j]? = some (Value.bool (decide ((j : Int) ∈ l.take k))) := by
  simp [takenL, h]
theorem takenL_set {l : List Int} {k : Nat} (h : k < l.length) {j : Nat} (hj : l.getD k 0 = j) : (takenL l k).set j (.bool true) = takenL l (k + 1) := by
  have e : l.take (k + 1) = l.take k ++ [(j : Int)] := by
    rw [List.take_add_one, List.getElem?_eq_getElem h]
    rw [List.getD_eq_getElem?_getD, List.getElem?_eq_getElem h] at hj
    simp at hj
    simp [hj]
  apply List.ext_getElem?
  intro i
  by_cases hi : i < 8
  · rw [takenL_at _ _ _ hi, e, List.getElem?_set]
    by_cases hij : j = i
    · subst hij
      rw [if_pos rfl, if_pos (by rw [takenL_length]; exact hi)]
      simp
    · rw [if_neg hij, takenL_at _ _ _ hi]
      have : ¬ ((i : Int) = (j : Int)) := by omega
      simp [this]
  · rw [List.getElem?_eq_none (by rw [List.length_set, takenL_length]; omega), List.getElem?_eq_none (by rw [takenL_length]; omega)]
theorem take_mem {l : List Int} {k : Nat} {x : Int} (h : x ∈ l.take k) : ∃ j, j < k ∧ l.getD j 0 = x := by
  obtain ⟨j, hj, e⟩ := List.getElem_of_mem h
  rw [List.length_take] at hj
  refine ⟨j, by omega, ?_⟩
  rw [List.getElem_take] at e
  rw [List.getD_eq_getElem?_getD, List.getElem?_eq_getElem (by omega)]
  simpa using e
theorem not_take {l : List Int} {k : Nat} (hk : k ≤ l.length) {x : Int} (h : ¬ x ∈ l.take k) : ∀ j, j < k → x ≠ l.getD j 0 := by
  intro j hj e
  apply h
  rw [List.getD_eq_getElem?_getD, List.getElem?_eq_getElem (by omega)] at e
  simp at e
  rw [e]
  exact List.mem_iff_getElem.2 ⟨j, by rw [List.length_take]; omega, by rw [List.getElem_take]⟩
end Go.Proofs.Ytlpkafhapmkkfaa

/- Chapter 5's program: lists of paths, conflicts. -/
namespace Go.Proofs.Ytlpkafhapmkkfaa
open Go.RowKit
set_option linter.unusedVariables false

/-- the Id of the path before the k-th. -/
def lastI (ps : List Pth) : Nat → Int
  | 0 => 0
  | m + 1 => match ps[m]? with | none => 0 | some q => q.id
theorem lastI_succ {ps : List Pth} {k : Nat} {p : Pth} (h : ps[k]? = some p) : lastI ps (k + 1) = p.id := by simp [lastI, h]
theorem goodAt_last {ps : List Pth} {k : Nat} {p : Pth} (h : ps[k]? = some p) : goodAt ps k = (isP p && decide (lastI ps k < p.id)) := by
  unfold goodAt
  rw [h]
  have hlt := (List.getElem?_eq_some_iff.1 h).1
  cases k with
  | zero =>
    cases hv : isP p
    · simp [hv]
    · have h1 := (isP_facts p hv).1
      have h0 : lastI ps 0 < p.id := by show (0 : Int) < p.id; omega
      rw [decide_eq_true h0]
      simp [hv]
  | succ m =>
    have h2 : ps[m]? = some ps[m] := List.getElem?_eq_getElem (by omega)
    simp [lastI, h2]
theorem goodAt_step {ps : List Pth} {k : Nat} (h : ∀ j, j < k → goodAt ps j = true) (h2 : goodAt ps k = true) : ∀ j, j < k + 1 → goodAt ps j = true := by
  intro j hj
  by_cases e : j = k
  · subst e; exact h2
  · exact h j (by omega)
theorem arePs_big {ps : List Pth} (h : 12 < ps.length) : arePs ps = false := by
  unfold arePs
  rw [decide_eq_false (by omega), Bool.and_false]
theorem PthAt.plain {w : World} {q : Addr} {p : Pth} (h : PthAt w q p) : w.cell? q = some (.int .i64 p.id) ∧ w.cell? ⟨q.block, q.off + 1, none⟩ = some (.int .i64 p.kind) ∧ w.cell? ⟨q.block, q.off + 2, none⟩ = some (.int .i64 p.frm) ∧ w.cell? ⟨q.block, q.off + 3, none⟩ = some (.int .i64 p.to) := ⟨h.c0, h.c1, h.c2, h.c3⟩
set_option maxHeartbeats 1000000 in
set_option maxRecDepth 100000 in
theorem impl_ArePaths (A : Option Addr) (n c B : Nat) (ps : List Pth) (w : World) (h : PthsAt w B A n ps) (hB : B ≤ w.heap.size) (hn : n ≤ 4294967296) :
    Calls Try.prog 94 #[.slice A n c] w fun e w' => e = .returned (.bool (arePs ps)) ∧ Below w.heap.size w w' := by
  have hl := h.1
  by_cases hbig : 12 < n
  · have HR := Lib.hid (arePs_big (ps := ps) (by omega))
    go_enter Try.func94, Try.ntmps94
    go_wp2
    go_ret
    exact ⟨by rw [HR.out]; rfl, Below.refl _ _⟩
  · go_enter Try.func94, Try.ntmps94
    go_wp2
    go_loopw [11, 3] (fun i x wr => ∃ k : Nat, k ≤ n ∧ i = .int .i64 k ∧ x = .int .i64 (lastI ps k) ∧ (∀ j, j < k → goodAt ps j = true) ∧ Below w.heap.size w wr) (fun i _ _ => n - (intOf i).toNat)
    case atStart => exact ⟨0, Nat.zero_le _, rfl, rfl, fun j hj => absurd hj (by omega), Below.refl _ _⟩
    case round =>
      obtain ⟨k, hk, rfl, rfl, hgo, hbl⟩ := hrel
      have hsz := hbl.size
      by_cases hlt : k < n
      · obtain ⟨ad, p, rfl, hab, hp, hq⟩ := h.at hlt
        obtain ⟨c0, c1, c2, c3⟩ := (hq.below hbl (by omega)).plain
        have i1 : (0 : Int) ≤ (k : Int) := by omega
        have i2 : (k : Int) < (n : Int) := by omega
        have HG := Lib.hid (goodAt_last hp)
        have HL := Lib.hid (lastI_succ hp)
        have hv : p.val = .agg #[.int .i64 p.id, .int .i64 p.kind, .int .i64 p.frm, .int .i64 p.to] := rfl
        obtain ⟨y, hy⟩ : ∃ y, lastI ps k = y := ⟨_, rfl⟩
        rw [hy] at HG
        have HB0 := Lib.hid hbl
        have HGO := Lib.hid hgo
        have hcc := fun x => impl_IsPath p x
        rw [hv] at hcc
        rw [hy]
        clear hq hy hbl hgo hv
        go_wp2_with fail
        refine (hcc _).mono ?_
        rintro e w1 ⟨rfl, hb⟩
        have hb1 := hb.cell (p := ⟨wr.heap.size, 0, none⟩) (by simp)
        have hB1 := Lib.hid (HB0.out.trans ((((Below.refl _ _).alloc (Nat.le_refl _) _).trans (hb.mono (by simp))).mono HB0.out.size))
        have d0 : w1.cell? ⟨wr.heap.size, 0, none⟩ = some (.int .i64 p.id) := hb1.trans (by go_simp)
        clear hb hb1 hcc
        cases hvp : isP p
        · have HR := Lib.hid (arePs_no (ps := ps) (k := k) (by omega) (by rw [HG.out, hvp]; rfl))
          clear HG
          go_wp2
          go_ret
          exact ⟨by rw [HR.out]; rfl, hB1.out⟩
        · by_cases hle : p.id ≤ y
          · have HR := Lib.hid (arePs_no (ps := ps) (k := k) (by omega) (by rw [HG.out, decide_eq_false (by omega)]; simp))
            clear HG
            go_wp2
            go_ret
            exact ⟨by rw [HR.out]; rfl, hB1.out⟩
          · have HN := Lib.hid (goodAt_step HGO.out (by rw [HG.out, hvp, decide_eq_true (by omega)]; rfl))
            clear HG
            go_wp2
            go_roundw
            case rel => exact ⟨k + 1, by omega, by go_num, by rw [HL.out], HN.out, hB1.out⟩
            case measure => simp [intOf]; omega
      · obtain rfl : k = n := by omega
        have HR := Lib.hid (arePs_end (ps := ps) (fun j hj => hgo j (by omega)))
        clear hgo
        go_wp2
        go_ret
        exact ⟨by rw [HR.out, hl, decide_eq_true (p := k ≤ 12) (by omega)]; rfl, hbl⟩
end Go.Proofs.Ytlpkafhapmkkfaa

/- Chapter 37: BusiestArm: program and model. -/
namespace Go.Proofs.Ytlpkafhapmkkfaa
open Go.RowKit
set_option linter.unusedVariables false
set_option linter.unusedSimpArgs false

theorem arePs_goodB {ps : List Pth} (h : arePs ps = true) : ∀ k, k < ps.length → goodAt ps k = true := by
  unfold arePs at h
  simp only [Bool.and_eq_true] at h
  exact fun k hk => List.all_eq_true.1 h.1 k (List.mem_range.2 hk)
theorem arePs_validB {ps : List Pth} (h : arePs ps = true) {k : Nat} {p : Pth} (hp : ps[k]? = some p) : isP p = true := by
  have h1 := arePs_goodB h k (List.getElem?_eq_some_iff.1 hp).1
  rw [goodAt_last hp, Bool.and_eq_true] at h1
  exact h1.1
def onArm (p : Pth) (a : Int) : Int := if p.frm = a ∨ p.to = a then 1 else 0
/-- how many of the first k paths come from an arm or leave by it. -/
def cntA (ps : List Pth) (a : Int) : Nat → Int
  | 0 => 0
  | k + 1 => cntA ps a k + onArm (pAt ps k) a
theorem onArm_bd (p : Pth) (a : Int) : 0 ≤ onArm p a ∧ onArm p a ≤ 1 := by unfold onArm; split <;> decide
theorem cntA_bd (ps : List Pth) (a : Int) : ∀ k, 0 ≤ cntA ps a k ∧ cntA ps a k ≤ k
  | 0 => ⟨Int.le_refl _, Int.le_refl _⟩
  | k + 1 => by
    have h1 := cntA_bd ps a k
    have h2 := onArm_bd (pAt ps k) a
    show 0 ≤ cntA ps a k + onArm (pAt ps k) a ∧ cntA ps a k + onArm (pAt ps k) a ≤ ((k + 1 : Nat) : Int)
    omega
theorem cntA_succ {ps : List Pth} {k : Nat} {p : Pth} (h : ps[k]? = some p) (a : Int) : cntA ps a (k + 1) = cntA ps a k + onArm p a := by show _ + onArm (pAt ps k) a = _; rw [pAt_some h]
theorem cntA_mono (ps : List Pth) (a : Int) {j : Nat} : ∀ {k : Nat}, j ≤ k → cntA ps a j ≤ cntA ps a k
  | 0, h => by
    obtain rfl : j = 0 := by omega
    exact Int.le_refl _
  | k + 1, h => by
    by_cases e : j = k + 1
    · subst e; exact Int.le_refl _
    · have h1 := cntA_mono ps a (j := j) (k := k) (by omega)
      have h2 := onArm_bd (pAt ps k) a
      show _ ≤ cntA ps a k + onArm (pAt ps k) a
      omega
/-- the arms with their numbers. -/
def armsW (cs : Nat → Int) : List Wnt := [⟨0, cs 0⟩, ⟨1, cs 1⟩, ⟨2, cs 2⟩, ⟨3, cs 3⟩]
theorem armsW_at (cs : Nat → Int) {k : Nat} (h : k < 4) : wntA (armsW cs) k = ⟨k, cs k⟩ := by
  match k, h with
  | 0, _ => rfl
  | 1, _ => rfl
  | 2, _ => rfl
  | 3, _ => rfl
/-- what BusiestArm answers. -/
def busyP (ps : List Pth) : Int := if ps.length = 0 ∨ arePs ps = false then -1 else (gtK (armsW fun a => cntA ps a ps.length) 4).path
/-- what the model carries: the best arm and its number. -/
def bestB (cs : Nat → Int) : Nat → Int × Int
  | 0 => (-1, 0)
  | k + 1 => if cs k > (bestB cs k).2 then ((k : Int), cs k) else bestB cs k
theorem bestB_gt {cs : Nat → Int} (h : ∀ k, 0 ≤ cs k) : ∀ k, k < 4 → ((gtK (armsW cs) (k + 1)).wait = 0 ∧ bestB cs (k + 1) = (-1, 0)) ∨ (0 < (gtK (armsW cs) (k + 1)).wait ∧ bestB cs (k + 1) = ((gtK (armsW cs) (k + 1)).path, (gtK (armsW cs) (k + 1)).wait))
  | 0, _ => by
    rw [gtK_one, armsW_at cs (by decide)]
    have h0 := h 0
    show (cs 0 = 0 ∧ (if cs 0 > 0 then ((0 : Int), cs 0) else (-1, 0)) = (-1, 0)) ∨ (0 < cs 0 ∧ (if cs 0 > 0 then ((0 : Int), cs 0) else (-1, 0)) = (0, cs 0))
    by_cases e : cs 0 > 0
    · exact .inr ⟨e, by rw [if_pos e]⟩
    · exact .inl ⟨by omega, by rw [if_neg e]⟩
  | k + 1, hk => by
    have ih := bestB_gt h k (by omega)
    have e1 : gtK (armsW cs) (k + 2) = gtW (gtK (armsW cs) (k + 1)) ⟨((k + 1 : Nat) : Int), cs (k + 1)⟩ := by show gtW _ _ = _; rw [armsW_at cs hk]
    have e2 : bestB cs (k + 2) = if cs (k + 1) > (bestB cs (k + 1)).2 then (((k + 1 : Nat) : Int), cs (k + 1)) else bestB cs (k + 1) := rfl
    have h0 := h (k + 1)
    rw [e1, e2]
    generalize gtK (armsW cs) (k + 1) = m at *
    unfold gtW
    rcases ih with ⟨i1, i2⟩ | ⟨i1, i2⟩
    · rw [i2]
      by_cases e : cs (k + 1) > 0
      · rw [if_pos (show cs (k + 1) > m.wait by omega), if_pos e]
        exact .inr ⟨e, rfl⟩
      · rw [if_neg (show ¬ cs (k + 1) > m.wait by omega), if_neg e]
        exact .inl ⟨i1, rfl⟩
    · rw [i2]
      by_cases e : cs (k + 1) > m.wait
      · rw [if_pos e, if_pos e]
        exact .inr ⟨by show 0 < cs (k + 1); omega, rfl⟩
      · rw [if_neg e, if_neg e]
        exact .inr ⟨i1, rfl⟩
theorem gtK_ge (zs : List Wnt) : ∀ {k j : Nat}, j < k → (wntA zs j).wait ≤ (gtK zs k).wait
  | k + 1, j, h => by
    show _ ≤ (gtW (gtK zs k) (wntA zs k)).wait
    unfold gtW
    by_cases e : j = k
    · subst e
      split
      · exact Int.le_refl _
      · rename_i h2; omega
    · have := gtK_ge zs (k := k) (j := j) (by omega)
      split
      · rename_i h2; omega
      · exact this
theorem busy_yes {ps : List Pth} (h0 : ps.length ≠ 0) (ha : arePs ps = true) : busyP ps = (bestB (fun a => cntA ps a ps.length) 4).1 := by
  unfold busyP
  rw [if_neg (fun h => h.elim h0 (fun h => by rw [ha] at h; cases h))]
  have hb := bestB_gt (cs := fun a => cntA ps a ps.length) (fun k => (cntA_bd ps k ps.length).1) 3 (by decide)
  rcases hb with ⟨h1, h2⟩ | ⟨h1, h2⟩
  · exfalso
    obtain ⟨p, hp⟩ : ∃ p, ps[0]? = some p := ⟨ps[0]'(by omega), List.getElem?_eq_getElem (by omega)⟩
    obtain ⟨_, _, ⟨f1, f2⟩, _⟩ := isP_facts p (arePs_validB ha hp)
    obtain ⟨f, hf⟩ : ∃ f : Nat, p.frm = f := ⟨p.frm.toNat, by omega⟩
    have h3 := gtK_ge (armsW fun a => cntA ps a ps.length) (k := 4) (j := f) (by omega)
    rw [armsW_at _ (by omega), h1] at h3
    simp only at h3
    have h4 := cntA_mono ps (f : Int) (j := 1) (k := ps.length) (by omega)
    have h5 : cntA ps (f : Int) 1 = 1 := by
      rw [cntA_succ hp]
      show (0 : Int) + onArm p f = 1
      unfold onArm
      rw [if_pos (Or.inl hf)]
      rfl
    omega
  · rw [h2]
theorem busy_no {ps : List Pth} (ha : arePs ps = false) : busyP ps = -1 := by unfold busyP; rw [if_pos (Or.inr ha)]
theorem busy_nil {ps : List Pth} (h : ps.length = 0) : busyP ps = -1 := by unfold busyP; rw [if_pos (Or.inl h)]
theorem ahead_busy (a b : Int) (w : World) : (nilAhead 278 129 (.agg #[.int .i64 a, .int .i64 b]) "loop.example/g03006/impl.size").run Try.prog w = .ok (some false) w := by kernel_rfl
theorem method_busy (a b : Int) (w : World) : (method 278 129 (.agg #[.int .i64 a, .int .i64 b]) "loop.example/g03006/impl.size").run Try.prog w = .ok (151, .agg #[.int .i64 a, .int .i64 b]) w := by kernel_rfl
theorem impl_sizeB (a b : Int) (w : World) : Calls Try.prog 151 #[.agg #[.int .i64 a, .int .i64 b]] w fun e w' => e = .returned (.int .i64 b) ∧ Below w.heap.size w w' := by
  have HB := Lib.hid ((Below.refl w.heap.size w).alloc (Nat.le_refl _) (.cells #[.int .i64 a, .int .i64 b] 129))
  go_enter Try.func151, Try.ntmps151
  go_wp2
  go_ret
  exact ⟨rfl, HB.out⟩
def bsyV (p : Wnt) : Value := .iface 129 (.agg #[.int .i64 p.path, .int .i64 p.wait])
theorem impl_BusiestArm1 (g k : Nat) (c : Int) (w : World) (hk : k < 4) (hc : w.cell? ⟨g, k, none⟩ = some (.int .i64 c)) :
    Calls Try.prog 97 #[.int .i64 k, .pointer (some ⟨g, 0, none⟩)] w fun e w' => e = .returned (bsyV ⟨k, c⟩) ∧ w = w' := by
  have i1 : (0 : Int) ≤ (k : Int) := by omega
  have i2 : (k : Int) < 4 := by omega
  unfold bsyV
  go_enter Try.func97, Try.ntmps97
  go_wp2
  go_ret
  exact ⟨rfl, rfl⟩
theorem impl_greatestB1 (f g k : Nat) (m p : Wnt) (w : World) (hf : w.cell? ⟨f, 0, none⟩ = some (.func (.func 97) #[] #[.pointer (some ⟨g, 0, none⟩)])) (hk : k < 4) (hp : p.path = k) (hc : w.cell? ⟨g, k, none⟩ = some (.int .i64 p.wait)) :
    Calls Try.prog 123 #[bsyV m, .int .i64 k, .pointer (some ⟨f, 0, none⟩)] w fun e w' => e = .returned (bsyV (gtW m p)) ∧ Below w.heap.size w w' := by
  have hcc := impl_BusiestArm1 g k p.wait w hk hc
  rw [show (⟨(k : Int), p.wait⟩ : Wnt) = p by cases p; simp only at hp; subst hp; rfl] at hcc
  clear hp hc
  obtain ⟨a, b⟩ := p
  obtain ⟨a2, b2⟩ := m
  have h1 := ahead_busy a b
  have h2 := ahead_busy a2 b2
  have m1 := method_busy a b
  have m2 := method_busy a2 b2
  have hs1 := fun w => impl_sizeB a b w
  have hs2 := fun w => impl_sizeB a2 b2 w
  by_cases hgt : b > b2
  · have HV : Hid (gtW ⟨a2, b2⟩ ⟨a, b⟩ = ⟨a, b⟩) := Lib.hid (by unfold gtW; rw [if_pos hgt])
    simp only [bsyV] at *
    go_enter Try.func123, Try.ntmps123
    go_wp2_with fail
    refine hcc.mono ?_
    rintro e w1 ⟨rfl, rfl⟩
    clear hcc
    go_wp2_with fail
    refine (hs1 _).mono ?_
    rintro e w1 ⟨rfl, hb1⟩
    go_wp2_with fail
    refine (hs2 _).mono ?_
    rintro e w2 ⟨rfl, hb2⟩
    have HB := Lib.hid (hb1.trans (hb2.mono hb1.size))
    clear hb1 hb2
    go_wp2
    go_ret
    exact ⟨by rw [HV.out]; rfl, HB.out⟩
  · have HV : Hid (gtW ⟨a2, b2⟩ ⟨a, b⟩ = ⟨a2, b2⟩) := Lib.hid (by unfold gtW; rw [if_neg hgt])
    simp only [bsyV] at *
    go_enter Try.func123, Try.ntmps123
    go_wp2_with fail
    refine hcc.mono ?_
    rintro e w1 ⟨rfl, rfl⟩
    clear hcc
    go_wp2_with fail
    refine (hs1 _).mono ?_
    rintro e w1 ⟨rfl, hb1⟩
    go_wp2_with fail
    refine (hs2 _).mono ?_
    rintro e w2 ⟨rfl, hb2⟩
    have HB := Lib.hid (hb1.trans (hb2.mono hb1.size))
    clear hb1 hb2
    go_wp2
    go_ret
    exact ⟨by rw [HV.out]; rfl, HB.out⟩
theorem impl_carryB (f g : Nat) (cs : Nat → Int) (w : World) (hf : w.cell? ⟨f, 0, none⟩ = some (.func (.func 97) #[] #[.pointer (some ⟨g, 0, none⟩)])) (hc : ∀ k, k < 4 → w.cell? ⟨g, k, none⟩ = some (.int .i64 (cs k))) (hfl : f < w.heap.size) (hgl : g < w.heap.size) :
    Calls Try.prog 122 #[.int .i64 4, bsyV (gtK (armsW cs) 0), .func (.func 123) #[] #[.pointer (some ⟨f, 0, none⟩)]] w fun e w' => e = .returned (bsyV (gtK (armsW cs) 4)) ∧ Below w.heap.size w w' := by
  have HF := Lib.hid hf
  have HC := Lib.hid hc
  clear hf hc
  go_enter Try.func122, Try.ntmps122
  go_wp2
  go_loopw [1, 9] (fun t i wr => ∃ k : Nat, k ≤ 4 ∧ i = .int .i64 k ∧ t = bsyV (gtK (armsW cs) k) ∧ Below w.heap.size w wr) (fun _ i _ => 4 - (intOf i).toNat)
  case atStart => exact ⟨0, by omega, rfl, rfl, Below.refl _ _⟩
  case round =>
    obtain ⟨k, hk, rfl, rfl, hbl⟩ := hrel
    by_cases hlt : k < 4
    · have hcc := impl_greatestB1 f g k (gtK (armsW cs) k) ⟨k, cs k⟩ wr ((hbl.cell (p := ⟨f, 0, none⟩) hfl).trans HF.out) hlt rfl ((hbl.cell (p := ⟨g, k, none⟩) hgl).trans (HC.out k hlt))
      have HS : Hid (gtK (armsW cs) (k + 1) = gtW (gtK (armsW cs) k) ⟨k, cs k⟩) := Lib.hid (by show gtW _ _ = _; rw [armsW_at cs hlt])
      rw [← HS.out] at hcc
      have i2 : (k : Int) < 4 := by omega
      have HB := Lib.hid hbl
      clear hbl
      go_wp2_with fail
      refine hcc.mono ?_
      rintro e w2 ⟨rfl, hb2⟩
      have HB2 := Lib.hid (HB.out.trans (hb2.mono HB.out.size))
      clear hb2 hcc
      go_wp2
      go_roundw
      case rel => exact ⟨k + 1, by omega, by go_num, rfl, HB2.out⟩
      case measure => simp [intOf]; omega
    · obtain rfl : k = 4 := by omega
      go_wp2
      go_ret
      exact ⟨rfl, hbl⟩
theorem impl_greatestB (g : Nat) (cs : Nat → Int) (w : World) (hc : ∀ k, k < 4 → w.cell? ⟨g, k, none⟩ = some (.int .i64 (cs k))) (hgl : g < w.heap.size) :
    Calls Try.prog 96 #[.int .i64 4, .func (.func 97) #[] #[.pointer (some ⟨g, 0, none⟩)]] w fun e w' => e = .returned (bsyV (gtK (armsW cs) 4)) ∧ Below w.heap.size w w' := by
  obtain ⟨wA, hwA⟩ : ∃ wA, wA = w.alloc (.cells #[.func (.func 97) #[] #[.pointer (some ⟨g, 0, none⟩)]] 134) := ⟨_, rfl⟩
  obtain ⟨hk, hsz, hBl⟩ := one_block hwA
  have hf : wA.cell? ⟨w.heap.size, 0, none⟩ = some (.func (.func 97) #[] #[.pointer (some ⟨g, 0, none⟩)]) := by rw [cell_of_row wA _ 0 _ _ _ hk]; rfl
  have hcA : ∀ k, k < 4 → wA.cell? ⟨g, k, none⟩ = some (.int .i64 (cs k)) := fun k h4 => (hBl.cell (p := ⟨g, k, none⟩) hgl).trans (hc k h4)
  have hc1 := impl_BusiestArm1 g 0 (cs 0) wA (by decide) (hcA 0 (by decide))
  have hc2 := impl_carryB w.heap.size g cs wA hf hcA (by omega) (by omega)
  have e0 : gtK (armsW cs) 0 = ⟨((0 : Nat) : Int), cs 0⟩ := rfl
  rw [e0] at hc2
  have HB := Lib.hid hBl
  have HC1 := Lib.hid hc1
  have HC2 := Lib.hid hc2
  clear hk hBl hcA hc hc1 hc2 e0
  go_enter Try.func96, Try.ntmps96
  go_wp2_with fail
  rw [← hwA]
  refine HC1.out.mono ?_
  rintro e w1 ⟨rfl, rfl⟩
  clear hwA
  go_wp2_with fail
  refine HC2.out.mono ?_
  rintro e w2 ⟨rfl, hb2⟩
  have HB2 := Lib.hid (HB.out.trans (hb2.mono HB.out.size))
  clear hb2
  go_wp2
  go_ret
  exact ⟨rfl, HB2.out⟩
set_option maxHeartbeats 4000000 in
set_option maxRecDepth 100000 in
theorem impl_countArms1 (g : Nat) (A : Option Addr) (n c B k : Nat) (ps : List Pth) (p : Pth) (c0 c1 c2 c3 : Int) (w : World) (hg : w.cell? ⟨g, 0, none⟩ = some (.slice A n c)) (hgl : g < w.heap.size) (h : PthsAt w B A n ps) (hB : B ≤ w.heap.size) (hk : k < n) (hn : n ≤ 4294967296) (hp : ps[k]? = some p) (hv : isP p = true)
    (b0 : 0 ≤ c0 ∧ c0 ≤ 4294967296) (b1 : 0 ≤ c1 ∧ c1 ≤ 4294967296) (b2 : 0 ≤ c2 ∧ c2 ≤ 4294967296) (b3 : 0 ≤ c3 ∧ c3 ≤ 4294967296) :
    Calls Try.prog 121 #[.agg #[.int .i64 c0, .int .i64 c1, .int .i64 c2, .int .i64 c3], .int .i64 k, .pointer (some ⟨g, 0, none⟩)] w fun e w' => e = .returned (.agg #[.int .i64 (c0 + onArm p 0), .int .i64 (c1 + onArm p 1), .int .i64 (c2 + onArm p 2), .int .i64 (c3 + onArm p 3)]) ∧ Below w.heap.size w w' := by
  obtain ⟨_, _, ⟨f1, f2⟩, ⟨t1, t2⟩, h5⟩ := isP_facts p hv
  clear h5
  obtain ⟨wA, hwA⟩ : ∃ wA, wA = (w.alloc (.cells #[.int .i64 c0, .int .i64 c1, .int .i64 c2, .int .i64 c3] 126)).alloc (.cells #[.int .i64 0, .int .i64 0, .int .i64 0, .int .i64 0] 126) := ⟨_, rfl⟩
  obtain ⟨hkk, hzz, hsz, hBl⟩ := two_blocks hwA
  obtain ⟨wB, hwB⟩ : ∃ wB, wB = wA.alloc (.cells #[.int .i64 0, .int .i64 0, .int .i64 0, .int .i64 0] 123) := ⟨_, rfl⟩
  obtain ⟨hpp, hsz2, hBl2⟩ := one_block hwB
  obtain ⟨ad, q, rfl, hab, hp2, hq⟩ := h.at hk
  obtain rfl : p = q := by rw [hp] at hp2; injection hp2
  obtain ⟨y0, y1, y2, y3⟩ := hq.below hBl (by omega)
  have hgA := (hBl.cell (p := ⟨g, 0, none⟩) hgl).trans hg
  obtain ⟨pa, pk, pf, pt⟩ := p
  subst hwA
  have HB := Lib.hid hBl
  have HK := Lib.hid hkk
  have HZ := Lib.hid hzz
  have HS := Lib.hid hsz
  have i1 : (0 : Int) ≤ (k : Int) := by omega
  have i2 : (k : Int) < (n : Int) := by omega
  simp only at f1 f2 t1 t2 y0 y1 y2 y3
  clear hp hp2 hq hv hg h hkk hzz hBl hwB hpp hsz2 hBl2
  go_enter Try.func121, Try.ntmps121
  have hf : pf = 0 ∨ pf = 1 ∨ pf = 2 ∨ pf = 3 := by omega
  have ht : pt = 0 ∨ pt = 1 ∨ pt = 2 ∨ pt = 3 := by omega
  clear f1 f2 t1 t2
  rcases hf with rfl | rfl | rfl | rfl <;> rcases ht with rfl | rfl | rfl | rfl <;>
    (go_wp2
     refine bodyPost_ret (by rw [results_cell rfl]; go_simp; try rfl) rfl ?_
     exact ⟨by simp [onArm], (((Below.refl w.heap.size w).alloc (Nat.le_refl _) _).alloc (by simp) _).alloc (by simp; omega) _⟩)
theorem box_4 {w : World} {g : Nat} {v0 v1 v2 v3 : Value} {E : TypeId} {fr : Nat × Nat} (h : w.heap[g]? = some (.cells #[v0, v1, v2, v3] E fr)) : w.cell? ⟨g, 0, none⟩ = some v0 ∧ w.cell? ⟨g, 1, none⟩ = some v1 ∧ w.cell? ⟨g, 2, none⟩ = some v2 ∧ w.cell? ⟨g, 3, none⟩ = some v3 := by
  refine ⟨?_, ?_, ?_, ?_⟩ <;> (rw [cell_of_row w g _ _ _ fr h]; rfl)
/-- the counts as a value. -/
def bsyCs (ps : List Pth) (k : Nat) : Value := .agg #[.int .i64 (cntA ps 0 k), .int .i64 (cntA ps 1 k), .int .i64 (cntA ps 2 k), .int .i64 (cntA ps 3 k)]
set_option maxHeartbeats 1000000 in
set_option maxRecDepth 100000 in
theorem impl_carryA (g : Nat) (A : Option Addr) (n c B : Nat) (ps : List Pth) (w : World) (hg : w.cell? ⟨g, 0, none⟩ = some (.slice A n c)) (hgl : g < w.heap.size) (h : PthsAt w B A n ps) (hB : B ≤ w.heap.size) (hn : n ≤ 4294967296) (ha : arePs ps = true) :
    Calls Try.prog 120 #[.int .i64 n, bsyCs ps 0, .func (.func 121) #[] #[.pointer (some ⟨g, 0, none⟩)]] w fun e w' => e = .returned (bsyCs ps n) ∧ Below w.heap.size w w' := by
  have e0 : bsyCs ps 0 = .agg #[.int .i64 0, .int .i64 0, .int .i64 0, .int .i64 0] := rfl
  rw [e0]
  obtain ⟨wA, hwA⟩ : ∃ wA, wA = (w.alloc (.cells #[.int .i64 0, .int .i64 0, .int .i64 0, .int .i64 0] 126)).alloc (.cells #[.int .i64 0, .int .i64 0, .int .i64 0, .int .i64 0] 126) := ⟨_, rfl⟩
  obtain ⟨hkk, hzz, hsz, hBl⟩ := two_blocks hwA
  have HL := Lib.hid h.1
  have HK := Lib.hid hkk
  have HZ := Lib.hid hzz
  have HBl := Lib.hid hBl
  clear hkk hzz hsz hBl e0
  go_enter Try.func120, Try.ntmps120
  go_wp2
  rw [← hwA]
  clear hwA
  go_loopw [9] (fun i wr => ∃ k : Nat, k ≤ n ∧ i = .int .i64 k ∧ wr.heap[w.heap.size]? = some (.cells #[.int .i64 (cntA ps 0 k), .int .i64 (cntA ps 1 k), .int .i64 (cntA ps 2 k), .int .i64 (cntA ps 3 k)] 126) ∧ wr.heap[w.heap.size + 1]? = some (.cells #[.int .i64 0, .int .i64 0, .int .i64 0, .int .i64 0] 126) ∧ Below w.heap.size w wr) (fun i _ => n - (intOf i).toNat)
  case atStart => exact ⟨0, Nat.zero_le _, rfl, HK.out, HZ.out, HBl.out⟩
  case round =>
    obtain ⟨k, hk, rfl, hkk, hzz, hbl⟩ := hrel
    obtain ⟨k0, k1, k2, k3⟩ := box_4 hkk
    by_cases hlt : k < n
    · have hgr := (hbl.cell (p := ⟨g, 0, none⟩) hgl).trans hg
      have hsz := hbl.size
      obtain ⟨ad, p, rfl, hab, hp, _⟩ := h.at hlt
      have hk4 : (k : Int) ≤ 4294967296 := by omega
      have bd := fun a => cntA_bd ps a k
      have hcc := impl_countArms1 g (some ad) n c B k ps p (cntA ps 0 k) (cntA ps 1 k) (cntA ps 2 k) (cntA ps 3 k) wr hgr (by omega) (h.below (hbl.mono hB)) (by omega) hlt hn hp (arePs_validB ha hp)
        ⟨(bd 0).1, Int.le_trans (bd 0).2 hk4⟩ ⟨(bd 1).1, Int.le_trans (bd 1).2 hk4⟩ ⟨(bd 2).1, Int.le_trans (bd 2).2 hk4⟩ ⟨(bd 3).1, Int.le_trans (bd 3).2 hk4⟩
      rw [← cntA_succ hp, ← cntA_succ hp, ← cntA_succ hp, ← cntA_succ hp] at hcc
      have HC := Lib.hid hcc
      have HKR := Lib.hid hkk
      have HZR := Lib.hid hzz
      have HBR := Lib.hid hbl
      have i1 : (0 : Int) ≤ (k : Int) := by omega
      have i2 : (k : Int) < (n : Int) := by omega
      clear hcc bd hp hkk hzz hbl hg h hgr
      go_wp2_with fail
      refine HC.out.mono ?_
      rintro e w2 ⟨rfl, hb2⟩
      have lt0 : w.heap.size + 1 < wr.heap.size := lt_of_block HZR.out
      have hk2 := (hb2.block _ (by omega)).trans HKR.out
      have HZ2 := Lib.hid ((hb2.block _ (by omega)).trans HZR.out)
      have HB2 := Lib.hid (HBR.out.trans (hb2.mono HBR.out.size))
      obtain ⟨y0, y1, y2, y3⟩ := box_4 hk2
      have fk : ∀ i, w2.frozen? ⟨w.heap.size, i, none⟩ = false := fun i => frozen_of_row _ _ i _ _ hk2
      have lt2 : w.heap.size < w2.heap.size := lt_of_block hk2
      have HK2 := Lib.hid hk2
      clear hb2 hk2 k0 k1 k2 k3
      go_wp2
      go_roundw
      case rel =>
        refine ⟨k + 1, by omega, by go_num, ?_, ?_, (((HB2.out.setCell (Nat.le_refl _) _).setCell (Nat.le_refl _) _).setCell (Nat.le_refl _) _).setCell (Nat.le_refl _) _⟩
        · exact stored4 HK2.out
        · exact unstored4 HZ2.out (by omega)
      case measure => simp [intOf]; omega
    · obtain rfl : k = n := by omega
      have fz : ∀ i, wr.frozen? ⟨w.heap.size + 1, i, none⟩ = false := fun i => frozen_of_row _ _ i _ _ hzz
      obtain ⟨z0, z1, z2, z3⟩ := box_4 hzz
      have lt0 : w.heap.size + 1 < wr.heap.size := lt_of_block hzz
      have HBR := Lib.hid hbl
      clear hkk hzz hbl
      go_wp2
      refine bodyPost_ret (by rw [results_cell rfl]; go_simp; try rfl) rfl ?_
      exact ⟨rfl, ((((HBR.out.setCell (Nat.le_succ _) _).setCell (Nat.le_succ _) _).setCell (Nat.le_succ _) _).setCell (Nat.le_succ _) _)⟩
theorem impl_countArms (A : Option Addr) (n c B : Nat) (ps : List Pth) (w : World) (h : PthsAt w B A n ps) (hB : B ≤ w.heap.size) (hn : n ≤ 4294967296) (ha : arePs ps = true) :
    Calls Try.prog 95 #[.slice A n c] w fun e w' => e = .returned (bsyCs ps n) ∧ Below w.heap.size w w' := by
  obtain ⟨wA, hwA⟩ : ∃ wA, wA = (w.alloc (.cells #[.slice A n c] 70)).alloc (.cells #[.int .i64 0, .int .i64 0, .int .i64 0, .int .i64 0] 126) := ⟨_, rfl⟩
  obtain ⟨hkk, hzz, hsz, hBl⟩ := two_blocks hwA
  have hg : wA.cell? ⟨w.heap.size, 0, none⟩ = some (.slice A n c) := by rw [cell_of_row wA _ 0 _ _ _ hkk]; rfl
  have hcc := impl_carryA w.heap.size A n c B ps wA hg (by omega) (h.below (hBl.mono hB)) (by omega) hn ha
  have e0 : bsyCs ps 0 = .agg #[.int .i64 0, .int .i64 0, .int .i64 0, .int .i64 0] := rfl
  rw [e0] at hcc
  unfold bsyCs at hcc ⊢
  have HC := Lib.hid hcc
  have HZ := Lib.hid hzz
  have HBl := Lib.hid hBl
  clear hcc e0 hg hkk hzz hBl
  go_enter Try.func95, Try.ntmps95
  go_wp2_with fail
  rw [← hwA]
  refine HC.out.mono ?_
  rintro e w2 ⟨rfl, hb2⟩
  clear hwA
  have hz2 := (hb2.block _ (by omega)).trans HZ.out
  have HB2 := Lib.hid (HBl.out.trans (hb2.mono HBl.out.size))
  have fz : ∀ i, w2.frozen? ⟨w.heap.size + 1, i, none⟩ = false := fun i => frozen_of_row _ _ i _ _ hz2
  obtain ⟨z0, z1, z2, z3⟩ := box_4 hz2
  have lt2 : w.heap.size + 1 < w2.heap.size := lt_of_block hz2
  clear hb2 hz2 hsz
  go_wp2
  refine bodyPost_ret (by rw [results_cell rfl]; go_simp; try rfl) rfl ?_
  exact ⟨rfl, ((((HB2.out.setCell (Nat.le_succ _) _).setCell (Nat.le_succ _) _).setCell (Nat.le_succ _) _).setCell (Nat.le_succ _) _)⟩
theorem asserts_busy (v : Value) (w : World) : (Instr.typeAssert (.iface 129 v) 132 129 true).run Try.prog w = .ok (.tuple #[v, .bool true]) w := by kernel_rfl
theorem impl_BusiestArm (A : Option Addr) (n c B : Nat) (ps : List Pth) (w : World) (h : PthsAt w B A n ps) (hB : B ≤ w.heap.size) (hn : n ≤ 4294967296) :
    Calls Try.prog 47 #[.slice A n c] w fun e w' => e = .returned (.int .i64 (busyP ps)) ∧ Below w.heap.size w w' := by
  have hl := h.1
  by_cases h0 : n = 0
  · subst h0
    have HR := Lib.hid (busy_nil hl)
    clear h hl
    go_enter Try.func47, Try.ntmps47
    go_wp2
    go_ret
    exact ⟨by rw [HR.out]; rfl, Below.refl _ _⟩
  · have hcc := impl_ArePaths A n c B ps w h hB hn
    have n0 : ¬ (n : Int) = 0 := by omega
    cases ha : arePs ps
    · rw [ha] at hcc
      have HC := Lib.hid hcc
      have HR := Lib.hid (busy_no ha)
      clear h hl hcc ha
      go_enter Try.func47, Try.ntmps47
      go_wp2_with fail
      refine HC.out.mono ?_
      rintro e w1 ⟨rfl, hb1⟩
      have HB1 := Lib.hid hb1
      clear hb1
      go_wp2
      go_ret
      exact ⟨by rw [HR.out]; rfl, HB1.out⟩
    · rw [ha] at hcc
      have HC := Lib.hid hcc
      have HH := Lib.hid h
      have HR : Hid (busyP ps = (gtK (armsW fun a => cntA ps a n) 4).path) := Lib.hid (by unfold busyP; rw [if_neg (by rw [hl, ha]; exact fun h => h.elim h0 (fun h => by cases h)), hl])
      have HA := Lib.hid ha
      clear h hl hcc ha
      have hta := asserts_busy
      go_enter Try.func47, Try.ntmps47
      go_wp2_with fail
      refine HC.out.mono ?_
      rintro e w1 ⟨rfl, hb1⟩
      have HB1 := Lib.hid hb1
      have HC2 := Lib.hid (impl_countArms A n c B ps w1 (HH.out.below (hb1.mono hB)) (by have := hb1.size; omega) hn HA.out)
      clear hb1
      go_wp2_with fail
      refine HC2.out.mono ?_
      rintro e w2 ⟨rfl, hb2⟩
      have HB2 := Lib.hid (HB1.out.trans (hb2.mono HB1.out.size))
      clear hb2
      unfold bsyCs
      obtain ⟨wA, hwA⟩ : ∃ wA, wA = w2.alloc (.cells #[.int .i64 (cntA ps 0 n), .int .i64 (cntA ps 1 n), .int .i64 (cntA ps 2 n), .int .i64 (cntA ps 3 n)] 126) := ⟨_, rfl⟩
      obtain ⟨hkk, hsz, hBl⟩ := one_block hwA
      have hgc : ∀ k, k < 4 → wA.cell? ⟨w2.heap.size, k, none⟩ = some (.int .i64 ((fun a : Nat => cntA ps a n) k)) := by
        obtain ⟨k0, k1, k2, k3⟩ := box_4 hkk
        intro k h4
        match k, h4 with
        | 0, _ => exact k0
        | 1, _ => exact k1
        | 2, _ => exact k2
        | 3, _ => exact k3
      have hcg := impl_greatestB w2.heap.size (fun a => cntA ps a n) wA hgc (by omega)
      have HB3 := Lib.hid (HB2.out.trans (hBl.mono HB2.out.size))
      clear hgc hkk hBl
      generalize gtK (armsW fun a => cntA ps a n) 4 = q at HR hcg
      obtain ⟨q1, q2⟩ := q
      unfold bsyV at hcg
      have HC3 := Lib.hid hcg
      clear hcg
      go_wp2_with fail
      rw [← hwA]
      refine HC3.out.mono ?_
      rintro e w3 ⟨rfl, hb3⟩
      clear hwA
      have HB4 := Lib.hid (HB3.out.trans (hb3.mono HB3.out.size))
      clear hb3
      go_wp2
      go_ret
      exact ⟨by rw [HR.out]; rfl, HB4.out.alloc (by exact HB4.out.size) _⟩
theorem bestB_zero : ∀ k, bestB (fun _ => 0) k = (-1, 0)
  | 0 => rfl
  | k + 1 => by
    show (if (0 : Int) > (bestB (fun _ => 0) k).2 then ((k : Int), (0 : Int)) else bestB (fun _ => 0) k) = _
    rw [bestB_zero k]
    rfl
/-- the numbers as the model counts them. -/
def csM (ps : List Pth) (a : Nat) : Int := if arePs ps = true then cntA ps a ps.length else 0
theorem busy_model (ps : List Pth) : busyP ps = (bestB (csM ps) 4).1 := by
  by_cases h0 : ps.length = 0
  · rw [busy_nil h0, show csM ps = fun _ => 0 from funext fun a => by unfold csM; rw [h0]; exact ite_self _, bestB_zero]
  · cases ha : arePs ps
    · rw [busy_no ha, show csM ps = fun _ => 0 from funext fun a => by unfold csM; rw [ha]; exact if_neg (by decide), bestB_zero]
    · rw [busy_yes h0 ha]
      congr 2
      exact funext fun a => by unfold csM; rw [if_pos ha]
theorem bestB_bd {cs : Nat → Int} {N : Int} (hN : 0 ≤ N) (h : ∀ k, 0 ≤ cs k ∧ cs k ≤ N) : ∀ k, 0 ≤ (bestB cs k).2 ∧ (bestB cs k).2 ≤ N
  | 0 => ⟨Int.le_refl _, hN⟩
  | k + 1 => by
    show 0 ≤ (if cs k > (bestB cs k).2 then ((k : Int), cs k) else bestB cs k).2 ∧ (if cs k > (bestB cs k).2 then ((k : Int), cs k) else bestB cs k).2 ≤ N
    split
    · exact h k
    · exact bestB_bd hN h k
theorem bestB_yes {cs : Nat → Int} {k : Nat} {x y : Int} (hb : bestB cs k = (x, y)) (h : cs k > y) : bestB cs (k + 1) = ((k : Int), cs k) := by
  show (if cs k > (bestB cs k).2 then ((k : Int), cs k) else bestB cs k) = _
  rw [hb, if_pos h]
theorem bestB_no {cs : Nat → Int} {k : Nat} {x y : Int} (hb : bestB cs k = (x, y)) (h : ¬ cs k > y) : bestB cs (k + 1) = (x, y) := by
  show (if cs k > (bestB cs k).2 then ((k : Int), cs k) else bestB cs k) = _
  rw [hb, if_neg h]
set_option maxHeartbeats 4000000 in
set_option maxRecDepth 100000 in
theorem spec_BusiestArm (A : Option Addr) (n c B : Nat) (ps : List Pth) (w : World) (h : PthsAt w B A n ps) (hB : B ≤ w.heap.size) (hn : n ≤ 4294967296) :
    Calls Try.prog 45 #[.slice A n c] w fun e w' => e = .returned (.int .i64 (busyP ps)) ∧ Below w.heap.size w w' := by
  have HR := Lib.hid (busy_model ps)
  have HL := Lib.hid h.1
  have HAP := Lib.hid (fun x (hx : Below w.heap.size w x) => spec_ArePaths A n c B ps x (h.below (hx.mono hB)) (by have := hx.size; omega) hn)
  have HBD := Lib.hid (bestB_bd (cs := csM ps) (N := (n : Int)) (by omega) (fun k => by
    unfold csM
    split
    · have := cntA_bd ps k ps.length
      rw [h.1] at this ⊢
      exact this
    · exact ⟨Int.le_refl _, by omega⟩))
  go_enter Try.func45, Try.ntmps45
  go_wp2
  go_loopw [3, 4, 5] (fun b m a wr => ∃ (k : Nat) (x y : Int), k ≤ 4 ∧ a = .int .i64 k ∧ b = .int .i64 x ∧ m = .int .i64 y ∧ bestB (csM ps) k = (x, y) ∧ Below w.heap.size w wr) (fun _ _ a _ => 4 - (intOf a).toNat)
  case atStart => exact ⟨0, -1, 0, by omega, rfl, rfl, rfl, rfl, Below.refl _ _⟩
  case round =>
    obtain ⟨k, x, y, hk, rfl, rfl, rfl, hbb, hbl⟩ := hrel
    have hbd := HBD.out k
    rw [hbb] at hbd
    obtain ⟨d1, d2⟩ := hbd
    simp only at d1 d2
    by_cases hlt : k < 4
    · have HBB := Lib.hid hbb
      have HBL := Lib.hid hbl
      clear hbb hbl
      obtain ⟨wo, rfl⟩ : ∃ wo : World, wo = wr := ⟨_, rfl⟩
      have k1 : (k : Int) < 4 := by omega
      go_wp2
      cases ha : arePs ps
      · have HA := Lib.hid ha
        have HCS : Hid (csM ps k = 0) := Lib.hid (by unfold csM; rw [if_neg (by rw [ha]; decide)])
        have HN := Lib.hid (bestB_no HBB.out (show ¬ csM ps k > y by rw [HCS.out]; omega))
        clear ha
        go_loopw [6, 7] (fun s i wr => i = .int .i64 0 ∧ s = .int .i64 0 ∧ Below w.heap.size w wr) (fun _ i _ => 0)
        case atStart => exact ⟨rfl, rfl, HBL.out⟩
        case round =>
          clear HBL
          obtain ⟨rfl, rfl, hbl⟩ := hrel
          by_cases hn0 : n = 0
          · subst hn0
            have HB := Lib.hid hbl
            clear hbl
            go_wp2
            go_roundw
            case rel => exact ⟨k + 1, _, _, by omega, by go_num, rfl, rfl, HN.out, HB.out⟩
            case measure => simp [intOf]; omega
          · have hcc := HAP.out wr hbl
            rw [HA.out] at hcc
            have HC := Lib.hid hcc
            have HB := Lib.hid hbl
            have n0 : (0 : Int) < (n : Int) := by omega
            clear hcc hbl
            go_wp2_with fail
            refine HC.out.mono ?_
            rintro e w2 ⟨rfl, hb2⟩
            have HB2 := Lib.hid (HB.out.trans (hb2.mono HB.out.size))
            clear hb2
            go_wp2
            go_roundw
            case rel => exact ⟨k + 1, _, _, by omega, by go_num, rfl, rfl, HN.out, HB2.out⟩
            case measure => simp [intOf]; omega
      · have HA := Lib.hid ha
        have HCS : Hid (csM ps k = cntA ps k n) := Lib.hid (by unfold csM; rw [if_pos ha, HL.out])
        clear ha
        go_loopw [6, 7] (fun s i wr => ∃ j : Nat, j ≤ n ∧ i = .int .i64 j ∧ s = .int .i64 (cntA ps k j) ∧ Below w.heap.size w wr) (fun _ i _ => n - (intOf i).toNat)
        case atStart => exact ⟨0, Nat.zero_le _, rfl, rfl, HBL.out⟩
        case round =>
          clear HBL
          obtain ⟨j, hj, rfl, rfl, hbl⟩ := hrel
          obtain ⟨e1, e2⟩ := cntA_bd ps k j
          by_cases hlj : j < n
          · have hcc := HAP.out wr hbl
            rw [HA.out] at hcc
            obtain ⟨ad, p, rfl, hab, hp, hq⟩ := h.at hlj
            have HQ := Lib.hid (fun x (hx : Below w.heap.size w x) => hq.below hx (by omega))
            have HS := Lib.hid (cntA_succ hp (k : Int))
            have HC := Lib.hid hcc
            have HB := Lib.hid hbl
            have j1 : (j : Int) < (n : Int) := by omega
            clear hcc hq hp hbl
            generalize cntA ps k j = t at *
            go_wp2_with fail
            refine HC.out.mono ?_
            rintro e w2 ⟨rfl, hb2⟩
            have HB2 := Lib.hid (HB.out.trans (hb2.mono HB.out.size))
            obtain ⟨c0, c1, c2, c3⟩ := HQ.out w2 HB2.out
            clear hb2
            obtain ⟨pa, pk, pf, pt⟩ := p
            simp only at c0 c1 c2 c3
            by_cases hf : pf = (k : Int)
            · subst hf
              have HS2 : Hid (cntA ps (k : Int) (j + 1) = t + 1) := Lib.hid (HS.out.trans (by unfold onArm; rw [if_pos (Or.inl rfl)]))
              clear HS
              go_wp2
              go_roundw
              case rel => exact ⟨j + 1, by omega, by go_num, by rw [HS2.out], HB2.out⟩
              case measure => simp [intOf]; omega
            · have ef : (pf == (k : Int)) = false := by simpa using hf
              by_cases ht : pt = (k : Int)
              · subst ht
                have HS2 : Hid (cntA ps (k : Int) (j + 1) = t + 1) := Lib.hid (HS.out.trans (by unfold onArm; rw [if_pos (Or.inr rfl)]))
                clear HS
                go_wp2
                go_roundw
                case rel => exact ⟨j + 1, by omega, by go_num, by rw [HS2.out], HB2.out⟩
                case measure => simp [intOf]; omega
              · have et : (pt == (k : Int)) = false := by simpa using ht
                have HS2 : Hid (cntA ps (k : Int) (j + 1) = t) := Lib.hid (HS.out.trans (by unfold onArm; rw [if_neg (fun h => h.elim hf ht)]; exact Int.add_zero _))
                clear HS
                go_wp2
                go_roundw
                case rel => exact ⟨j + 1, by omega, by go_num, by rw [HS2.out], HB2.out⟩
                case measure => simp [intOf]; omega
          · obtain rfl : j = n := by omega
            rw [← HCS.out] at e1 e2 ⊢
            have HB := Lib.hid hbl
            clear hbl
            by_cases hg : csM ps k > y
            · have HN := Lib.hid (bestB_yes HBB.out hg)
              generalize csM ps k = t at *
              go_wp2
              go_roundw
              case rel => exact ⟨k + 1, _, _, by omega, by go_num, rfl, rfl, HN.out, HB.out⟩
              case measure => simp [intOf]; omega
            · have HN := Lib.hid (bestB_no HBB.out hg)
              generalize csM ps k = t at *
              go_wp2
              go_roundw
              case rel => exact ⟨k + 1, _, _, by omega, by go_num, rfl, rfl, HN.out, HB.out⟩
              case measure => simp [intOf]; omega
    · obtain rfl : k = 4 := by omega
      have HV : Hid (busyP ps = x) := Lib.hid (HR.out.trans (by rw [hbb]))
      go_wp2
      go_ret
      exact ⟨by rw [HV.out]; rfl, hbl⟩
end Go.Proofs.Ytlpkafhapmkkfaa

/- Rows of paths as a law's walk knows them. -/
namespace Go.Proofs.Ytlpkafhapmkkfaa
open Go.RowKit
set_option linter.unusedVariables false

/-- a slice of paths that may be read. -/
structure SlP (w : World) (A : Option Addr) (n c : Nat) (ps : List Pth) : Prop where
  pths : PthsAt w w.heap.size A n ps
  bare : A = none → n = 0 ∧ c = 0
  small : n ≤ 4294967296
  cap : n ≤ c ∧ c ≤ maxLen
  wf : ∀ p ∈ ps, p.wf
theorem SlP.len {w : World} {A : Option Addr} {n c : Nat} {ps : List Pth} (h : SlP w A n c ps) : ps.length = n := h.pths.1
theorem SlP.below {w w' : World} {A : Option Addr} {n c : Nat} {ps : List Pth} (h : SlP w A n c ps) (hb : Below w.heap.size w w') : SlP w' A n c ps :=
  ⟨(h.pths.below hb).up hb.size, h.bare, h.small, h.cap, h.wf⟩
/-- a row of paths of the call's own, between two block numbers. -/
structure OwP (E : TypeId) (w : World) (lo hi : Nat) (v : Value) (ps : List Pth) : Prop where
  own : w.ownsRow lo E 4 v ps.length (pcells ps)
  lt : ∀ g, v.ownBlock = some g → g < hi
  top : hi ≤ w.heap.size
theorem OwP.new {E : TypeId} {w : World} {lo : Nat} {v : Value} {ps : List Pth} (h : w.ownsRow lo E 4 v ps.length (pcells ps)) : OwP E w lo w.heap.size v ps := ⟨h, fun g e => (ownr_block h g e).2, Nat.le_refl _⟩
theorem OwP.below {E : TypeId} {w w' : World} {lo hi : Nat} {v : Value} {ps : List Pth} (h : OwP E w lo hi v ps) (hb : Below w.heap.size w w') : OwP E w' lo hi v ps := ⟨ownr_below h.own hb, h.lt, Nat.le_trans h.top hb.size⟩
theorem OwP.ints {E : TypeId} {w : World} {lo hi : Nat} {A : Option Addr} {n c : Nat} {ps : List Pth} (h : OwP E w lo hi (.slice A n c) ps) : PthsAt w w.heap.size A n ps := by
  have hn := ownr_len h.own
  subst hn
  exact ⟨rfl, ownr_cells h.own⟩
theorem OwP.sl {E : TypeId} {w : World} {lo hi : Nat} {A : Option Addr} {n c : Nat} {ps : List Pth} (h : OwP E w lo hi (.slice A n c) ps) (hn : n ≤ 4294967296) (hw : ∀ p ∈ ps, p.wf) : SlP w A n c ps :=
  ⟨h.ints, ownr_nilcap h.own, hn, ownr_cap h.own, hw⟩
theorem OwP.part {E : TypeId} {w w' : World} {lo hi l h' : Nat} {v : Value} {ps : List Pth} (h : OwP E w lo hi v ps) (hp : Part l h' w w') (hd : hi ≤ l ∨ h' ≤ lo) : OwP E w' lo hi v ps := by
  refine ⟨⟨h.own.1, ?_⟩, h.lt, Nat.le_trans h.top hp.size⟩
  rcases h.own.2 with h2 | ⟨g, cap, cur, rfl, hl, hg, r⟩
  · exact .inl h2
  · have hlt := h.lt g rfl
    have htop := h.top
    exact .inr ⟨g, cap, cur, rfl, hl, (hp.block g (by omega) (by omega)).trans hg, r⟩
theorem to_pth (A : Option Addr) (n c B : Nat) (ps : List Pth) (w : World) (h : PthsAt w B A n ps) (hB : B ≤ w.heap.size) (hn : n ≤ 1048576) :
    Calls Try.prog 46 #[.slice A n c] w fun e w' => e = .returned (.slice (some ⟨w.heap.size, 0, none⟩) n n) ∧ w'.ownsRow w.heap.size 123 4 (.slice (some ⟨w.heap.size, 0, none⟩) n n) ps.length (pcells ps) ∧ Below w.heap.size w w' := by
  have hl := h.1
  refine (law_toPathS A n c B ps w h hB (by omega)).mono fun e w' ⟨h1, h2, h3⟩ => ⟨h1, ?_, h3⟩
  rw [hl]
  exact h2
theorem eqs_pth (A : Option Addr) (n c : Nat) (ps : List Pth) (A2 : Option Addr) (n2 c2 : Nat) (w : World) (h : PthsAt w w.heap.size A n ps) (h2 : PthsAt w w.heap.size A2 n2 ps) (hn : n ≤ 1048576) (hn2 : n2 ≤ 1048576) :
    Calls Try.prog 48 #[.slice A n c, .slice A2 n2 c2] w fun e w' => e = .returned (.bool true) ∧ Below w.heap.size w w' :=
  (law_eqPathS A n c _ ps A2 n2 c2 _ ps w h h2 (Nat.le_refl _) (Nat.le_refl _) (by omega) (by omega)).mono fun e w' ⟨he, hb⟩ => ⟨by rw [he, decide_eq_true rfl], hb⟩
theorem sz_pth (A : Option Addr) (n c : Nat) (left : Int) (w : World) (hn : n ≤ 9223372036854775807) (hl : 0 ≤ left ∧ left ≤ 1048576) :
    Calls Try.prog 44 #[.slice A n c, .int .i64 left] w fun e w' => e = .returned (.int .i64 (if (n : Int) ≤ left then left - (n : Int) else -1)) ∧ w = w' := by
  obtain ⟨l1, l2⟩ := hl
  by_cases h : (n : Int) ≤ left
  · rw [if_pos h]
    go_enter Try.func44, Try.ntmps44
    go_wp2
    go_ret
    exact ⟨rfl, rfl⟩
  · rw [if_neg h]
    go_enter Try.func44, Try.ntmps44
    go_wp2
    go_ret
    exact ⟨rfl, rfl⟩
end Go.Proofs.Ytlpkafhapmkkfaa

/- BusiestArm as its exact law meets it. -/
namespace Go.Proofs.Ytlpkafhapmkkfaa
open Go.RowKit
set_option linter.unusedVariables false

theorem sp_BusiestArm (A0 : Option Addr) (n0 c0 : Nat) (zs0 : List Pth) (w : World) (h0 : SlP w A0 n0 c0 zs0) (hs0 : n0 ≤ 1048576) (r : Int) (hr : busyP zs0 = r) :
    Calls Try.prog 45 #[.slice A0 n0 c0] w fun e w' => e = .returned (.int .i64 r) ∧ Below w.heap.size w w' := by
  subst hr
  exact spec_BusiestArm A0 n0 c0 _ zs0 w h0.pths (Nat.le_refl _) h0.small
theorem im_BusiestArm (A0 : Option Addr) (n0 c0 : Nat) (zs0 : List Pth) (w : World) (h0 : SlP w A0 n0 c0 zs0) (hs0 : n0 ≤ 1048576) (r : Int) (hr : busyP zs0 = r) :
    Calls Try.prog 47 #[.slice A0 n0 c0] w fun e w' => e = .returned (.int .i64 r) ∧ Below w.heap.size w w' := by
  subst hr
  exact impl_BusiestArm A0 n0 c0 _ zs0 w h0.pths (Nat.le_refl _) h0.small
end Go.Proofs.Ytlpkafhapmkkfaa
