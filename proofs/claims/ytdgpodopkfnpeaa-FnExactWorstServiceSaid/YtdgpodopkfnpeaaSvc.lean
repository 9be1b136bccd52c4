/- Service as Lean data; rows of them, and the laws' helpers for these (written by gentype.py). -/
import Derived.Test.YtdgpodopkfnpeaaFlat
import Derived.Test.YtdgpodopkfnpeaaMem
import Derived.Deep.RegionHeld3
import Derived.Deep.DrawnRows
namespace Go.Proofs.Ytdgpodopkfnpeaa
open Go.RowKit
set_option linter.unusedVariables false

structure Svc where
  path : Int
  green : Int
  wait : Int
  share : Int
deriving DecidableEq
def Svc.cells (p : Svc) : List Value := [.int .i64 p.path, .int .i64 p.green, .int .i64 p.wait, .int .i64 p.share]
def Svc.val (p : Svc) : Value := .agg #[.int .i64 p.path, .int .i64 p.green, .int .i64 p.wait, .int .i64 p.share]
def Svc.wf (p : Svc) : Prop := (Lit.int .i64 p.path).wf = true ∧ (Lit.int .i64 p.green).wf = true ∧ (Lit.int .i64 p.wait).wf = true ∧ (Lit.int .i64 p.share).wf = true
def svccells (ps : List Svc) : List Value := ps.flatMap Svc.cells
theorem svccells_length (ps : List Svc) : (svccells ps).length = ps.length * 4 := flat_length (f := Svc.cells) (fun _ => rfl) ps
theorem svccells_take {ps : List Svc} {k : Nat} {p : Svc} (h : ps[k]? = some p) : svccells (ps.take (k + 1)) = svccells (ps.take k) ++ p.cells := by
  unfold svccells
  rw [List.take_add_one, h, List.flatMap_append]
  simp
theorem svccells_one (ps : List Svc) : ∀ u ∈ svccells ps, u.oneCell' = true := by
  intro u hu
  obtain ⟨p, _, hp⟩ := List.mem_flatMap.1 hu
  simp only [Svc.cells, List.mem_cons, List.not_mem_nil, or_false] at hp
  rcases hp with rfl | rfl | rfl | rfl <;> rfl
theorem svccells_put {ps : List Svc} {zs : List Value} {k : Nat} {p : Svc} (h : ps[k]? = some p) (hz : k * 4 + 4 ≤ zs.length) :
    ((((svccells (ps.take k) ++ zs.drop (k * 4)).set (k * 4) (.int .i64 p.path)).set (k * 4 + 1) (.int .i64 p.green)).set (k * 4 + 2) (.int .i64 p.wait)).set (k * 4 + 3) (.int .i64 p.share) = svccells (ps.take (k + 1)) ++ zs.drop ((k + 1) * 4) := by
  obtain ⟨z0, z1, z2, z3, hd⟩ := drop4 hz
  have hk := (List.getElem?_eq_some_iff.1 h).1
  rw [hd, set4 (by rw [svccells_length, List.length_take]; omega), svccells_take h]
  simp [Svc.cells, Nat.add_mul]
def SvcsAt (w : World) (B : Nat) (A : Option Addr) (n : Nat) (ps : List Svc) : Prop := ps.length = n ∧ CellsAt w B A (n * 4) (svccells ps)
theorem SvcsAt.keep {w w' : World} {B : Nat} {A : Option Addr} {n : Nat} {ps : List Svc} (h : SvcsAt w B A n ps) (hk : ∀ p : Addr, p.block < B → w'.cell? p = w.cell? p) : SvcsAt w' B A n ps := ⟨h.1, h.2.keep hk⟩
theorem SvcsAt.below {w w' : World} {B : Nat} {A : Option Addr} {n : Nat} {ps : List Svc} (h : SvcsAt w B A n ps) (hb : Below B w w') : SvcsAt w' B A n ps := ⟨h.1, h.2.below hb⟩
theorem SvcsAt.up {w : World} {B B' : Nat} {A : Option Addr} {n : Nat} {ps : List Svc} (h : SvcsAt w B A n ps) (hB : B ≤ B') : SvcsAt w B' A n ps := ⟨h.1, h.2.up hB⟩
structure SvcAt (w : World) (q : Addr) (p : Svc) : Prop where
  c0 : w.cell? q = some (.int .i64 p.path)
  c1 : w.cell? ⟨q.block, q.off + 1, none⟩ = some (.int .i64 p.green)
  c2 : w.cell? ⟨q.block, q.off + 2, none⟩ = some (.int .i64 p.wait)
  c3 : w.cell? ⟨q.block, q.off + 3, none⟩ = some (.int .i64 p.share)
theorem SvcAt.keep {w w' : World} {q : Addr} {p : Svc} (h : SvcAt w q p) (e : w'.heap[q.block]? = w.heap[q.block]?) : SvcAt w' q p :=
  ⟨(World.cell?_of_block e).trans h.c0, (World.cell?_of_block (a := ⟨q.block, q.off + 1, none⟩) e).trans h.c1, (World.cell?_of_block (a := ⟨q.block, q.off + 2, none⟩) e).trans h.c2, (World.cell?_of_block (a := ⟨q.block, q.off + 3, none⟩) e).trans h.c3⟩
theorem SvcAt.below {w w' : World} {q : Addr} {p : Svc} {B : Nat} (h : SvcAt w q p) (hb : Below B w w') (hB : q.block < B) : SvcAt w' q p := h.keep (hb.block _ hB)
theorem svc_head {w : World} {g : Nat} {p : Svc} (h : SvcAt w ⟨g, 0, none⟩ p) : w.cell? ⟨g, 0, none⟩ = some (.int .i64 p.path) ∧ w.cell? ⟨g, 1, none⟩ = some (.int .i64 p.green) ∧ w.cell? ⟨g, 2, none⟩ = some (.int .i64 p.wait) ∧ w.cell? ⟨g, 3, none⟩ = some (.int .i64 p.share) := ⟨h.c0, h.c1, h.c2, h.c3⟩
theorem svc_of_block {w : World} {g : Nat} {p : Svc} {E : TypeId} {fr : Nat × Nat} (h : w.heap[g]? = some (.cells #[.int .i64 p.path, .int .i64 p.green, .int .i64 p.wait, .int .i64 p.share] E fr)) : SvcAt w ⟨g, 0, none⟩ p :=
  ⟨by rw [cell_of_row w g 0 _ E fr h]; rfl, by rw [cell_of_row w g _ _ E fr h]; rfl, by rw [cell_of_row w g _ _ E fr h]; rfl, by rw [cell_of_row w g _ _ E fr h]; rfl⟩
theorem SvcsAt.at {w : World} {B : Nat} {A : Option Addr} {n : Nat} {ps : List Svc} (h : SvcsAt w B A n ps) {k : Nat} (hk : k < n) : ∃ ad p, A = some ad ∧ (ad.add (k * 4)).block < B ∧ ps[k]? = some p ∧ SvcAt w (ad.add (k * 4)) p := by
  obtain ⟨hl, _, hc⟩ := h
  obtain ⟨ad, e, hb, hc⟩ := hc (by omega)
  have hp : ps[k]? = some ps[k] := List.getElem?_eq_getElem (by omega)
  have hg := fun i (hi : i < 4) => flat_get (f := Svc.cells) (fun _ => rfl) ps k i _ hp hi
  have ha := fun i (hi : 0 < i) => (add_add ad (k * 4) i).symm.trans (add_plusF _ i hi)
  refine ⟨ad, ps[k], e, by rw [add_block]; exact hb, hp, hc _ _ (hg 0 (by decide)), ?_, ?_, ?_⟩
  · rw [← ha 1 (by decide)]; exact hc _ _ (hg 1 (by decide))
  · rw [← ha 2 (by decide)]; exact hc _ _ (hg 2 (by decide))
  · rw [← ha 3 (by decide)]; exact hc _ _ (hg 3 (by decide))
theorem law_toService (p : Svc) (w : World) : Calls Try.prog 84 #[p.val] w fun e w' => e = .returned p.val ∧ Below w.heap.size w w' := by
  obtain ⟨a, b, c, d⟩ := p
  simp only [Svc.val]
  go_enter Try.func84, Try.ntmps84
  go_wp2
  refine bodyPost_ret (by rw [results_cell rfl]; go_simp; try rfl) rfl ?_
  exact ⟨rfl, ((((Below.refl _ _).alloc (Nat.le_refl _) _).alloc (by simp) _).alloc (by simp; omega) _)⟩
theorem info_svc : (Try.prog.info? 114).map (fun i => (i.zero, i.size, i.bytes)) = some (some (.agg #[.int .i64 0, .int .i64 0, .int .i64 0, .int .i64 0]), 4, 32) := by kernel_rfl
theorem made_svc (n : Nat) : (madeCells (Value.agg #[Value.int .i64 0, Value.int .i64 0, Value.int .i64 0, Value.int .i64 0]).cells (n * 4)).toList = svccells (List.replicate n ⟨0, 0, 0, 0⟩) := by
  have h : (Value.agg #[Value.int .i64 0, Value.int .i64 0, Value.int .i64 0, Value.int .i64 0]).cells = #[Value.int .i64 0, Value.int .i64 0, Value.int .i64 0, Value.int .i64 0] := rfl
  rw [h]
  apply List.ext_getElem?
  intro i
  simp only [madeCells, Array.toList_map, List.getElem?_map]
  by_cases hi : i < n * 4
  · have hg := flat_get (f := Svc.cells) (fun _ => rfl) (List.replicate n ⟨0, 0, 0, 0⟩) (i / 4) (i % 4) ⟨0, 0, 0, 0⟩ (by rw [List.getElem?_replicate, if_pos (by omega)]) (Nat.mod_lt _ (by decide))
    rw [show i / 4 * 4 + i % 4 = i by omega] at hg
    unfold svccells
    rw [hg]
    have h4 : i % 4 = 0 ∨ i % 4 = 1 ∨ i % 4 = 2 ∨ i % 4 = 3 := by omega
    rcases h4 with h4 | h4 | h4 | h4 <;> simp [hi, h4, Svc.cells]
  · rw [List.getElem?_eq_none (l := svccells _) (by rw [svccells_length, List.length_replicate]; omega)]
    simp [hi]
theorem law_toServiceS (A : Option Addr) (n c B : Nat) (ps : List Svc) (w : World) (h : SvcsAt w B A n ps) (hB : B ≤ w.heap.size) (hn : n ≤ 4294967296) :
    Calls Try.prog 39 #[.slice A n c] w fun e w' => e = .returned (.slice (some ⟨w.heap.size, 0, none⟩) n n) ∧ w'.ownsRow w.heap.size 114 4 (.slice (some ⟨w.heap.size, 0, none⟩) n n) n (svccells ps) ∧ Below w.heap.size w w' := by
  have hl := h.1
  go_enter Try.func39, Try.ntmps39
  go_wp2_with ((with_reducible show wpList _ _ _ _ _ _); refine wpList_mkR rfl _ _ _ rfl 114 _ 4 _ Try.underlying55 info_svc (by decide) (n : Int) (n : Int) n rfl rfl rfl rfl (by omega) ?_; intro w1 hown hgrow)
  go_loopw [4] (fun i wr => ∃ k : Nat, k ≤ n ∧ i = .int .i64 k ∧ wr.ownsRow w.heap.size 114 4 (.slice (some ⟨w.heap.size, 0, none⟩) n n) n (svccells (ps.take k) ++ (svccells (List.replicate n ⟨0, 0, 0, 0⟩)).drop (k * 4)) ∧ Below w.heap.size w wr) (fun i _ => n - (intOf i).toNat)
  case atStart => exact ⟨0, Nat.zero_le _, rfl, by rw [made_svc] at hown; simpa [svccells] using hown, below_grown hgrow⟩
  case round =>
    obtain ⟨k, hk, rfl, hown, hbl⟩ := hrel
    by_cases hlt : k < n
    · obtain ⟨ad, p, rfl, hab, hp, hq⟩ := h.at hlt
      obtain ⟨c0, c1, c2, c3⟩ := hq.below hbl (by omega)
      go_wp2_with fail
      refine (law_toService p _).mono ?_
      rintro e w2 ⟨rfl, hb2⟩
      have hown2 := ownr_below hown hb2
      obtain ⟨x0, hx0⟩ := ownr_some hown2 (j := k * 4) (by omega)
      obtain ⟨x1, hx1⟩ := ownr_some hown2 (j := k * 4 + 1) (by omega)
      obtain ⟨x2, hx2⟩ := ownr_some hown2 (j := k * 4 + 2) (by omega)
      obtain ⟨x3, hx3⟩ := ownr_some hown2 (j := k * 4 + 3) (by omega)
      have f0 := World.ownsRow.frozenAt hown2
      have hst := (World.ownsRow.stored (World.ownsRow.stored (World.ownsRow.stored (World.ownsRow.stored hown2 (k * 4) (.int .i64 p.path)).1 (k * 4 + 1) (.int .i64 p.green)).1 (k * 4 + 2) (.int .i64 p.wait)).1 (k * 4 + 3) (.int .i64 p.share)).1
      rw [svccells_put hp (by rw [svccells_length, List.length_replicate]; omega)] at hst
      have HS := Lib.hid hst
      have HB := Lib.hid (hbl.trans (hb2.mono hbl.size))
      simp only [Svc.val]
      clear hown hown2 hbl hb2 hst hq
      go_wp2
      go_roundw
      case rel => exact ⟨k + 1, by omega, by go_num, HS.out, ((((HB.out.setCell (Nat.le_refl _) _).setCell (Nat.le_refl _) _).setCell (Nat.le_refl _) _).setCell (Nat.le_refl _) _)⟩
      case measure => simp [intOf]; omega
    · obtain rfl : k = n := by omega
      rw [List.take_of_length_le (by omega), List.drop_of_length_le (by rw [svccells_length, List.length_replicate]; exact Nat.le_refl _), List.append_nil] at hown
      go_wp2
      go_ret
      exact ⟨rfl, hown, hbl⟩
theorem law_eqService (p q : Svc) (w : World) : Calls Try.prog 87 #[p.val, q.val] w fun e w' => e = .returned (.bool (decide (p = q))) ∧ Below w.heap.size w w' := by
  obtain ⟨a, b, c, d⟩ := p
  obtain ⟨a', b', c', d'⟩ := q
  simp only [Svc.val, Svc.mk.injEq]
  have hb0 := ((Below.refl w.heap.size w).alloc (Nat.le_refl _) (.cells #[.int .i64 a, .int .i64 b, .int .i64 c, .int .i64 d] 114)).alloc (by simp) (.cells #[.int .i64 a', .int .i64 b', .int .i64 c', .int .i64 d'] 114)
  have HB := Lib.hid hb0
  clear hb0
  by_cases h0 : a = a'
  rotate_left
  · have e0 : (a != a') = true := by simpa using h0
    go_enter Try.func87, Try.ntmps87
    go_wp2
    go_ret
    exact ⟨by simp [h0], HB.out⟩
  subst h0
  by_cases h1 : b = b'
  rotate_left
  · have e0 : (b != b') = true := by simpa using h1
    go_enter Try.func87, Try.ntmps87
    go_wp2
    go_ret
    exact ⟨by simp [h1], HB.out⟩
  subst h1
  by_cases h2 : c = c'
  rotate_left
  · have e0 : (c != c') = true := by simpa using h2
    go_enter Try.func87, Try.ntmps87
    go_wp2
    go_ret
    exact ⟨by simp [h2], HB.out⟩
  subst h2
  by_cases h3 : d = d'
  rotate_left
  · have e0 : (d != d') = true := by simpa using h3
    go_enter Try.func87, Try.ntmps87
    go_wp2
    go_ret
    exact ⟨by simp [h3], HB.out⟩
  subst h3
  go_enter Try.func87, Try.ntmps87
  go_wp2
  go_ret
  exact ⟨by simp, HB.out⟩
theorem same_svc (p : Svc) (w : World) : Calls Try.prog 87 #[p.val, p.val] w fun e w' => e = .returned (.bool true) ∧ Below w.heap.size w w' := (law_eqService p p w).mono fun e w' ⟨he, hb⟩ => ⟨by rw [he, decide_eq_true rfl], hb⟩
theorem law_eqServiceS (A : Option Addr) (n c B : Nat) (ps : List Svc) (A2 : Option Addr) (n2 c2 B2 : Nat) (qs : List Svc) (w : World) (h : SvcsAt w B A n ps) (h2 : SvcsAt w B2 A2 n2 qs) (hB : B ≤ w.heap.size) (hB2 : B2 ≤ w.heap.size) (hn : n ≤ 4294967296) (hn2 : n2 ≤ 4294967296) :
    Calls Try.prog 41 #[.slice A n c, .slice A2 n2 c2] w fun e w' => e = .returned (.bool (decide (ps = qs))) ∧ Below w.heap.size w w' := by
  have hl := h.1
  have hl2 := h2.1
  by_cases hne : n = n2
  · subst hne
    go_enter Try.func41, Try.ntmps41
    go_wp2
    go_loopw [5] (fun i wr => ∃ k : Nat, k ≤ n ∧ i = .int .i64 k ∧ ps.take k = qs.take k ∧ Below w.heap.size w wr) (fun i _ => n - (intOf i).toNat)
    case atStart => exact ⟨0, Nat.zero_le _, rfl, by simp, Below.refl _ _⟩
    case round =>
      obtain ⟨k, hk, rfl, hsame, hbl⟩ := hrel
      by_cases hlt : k < n
      · obtain ⟨ad, p, rfl, hab, hp, hq⟩ := h.at hlt
        obtain ⟨ad2, q, rfl, hab2, hp2, hq2⟩ := h2.at hlt
        replace hq := hq.below hbl (by omega)
        replace hq2 := hq2.below hbl (by omega)
        have i1 : (0 : Int) ≤ (k : Int) := by omega
        have i2 : (k : Int) < (n : Int) := by omega
        have hsz := hbl.size
        go_wp2
        go_region_held3 (fun W' => W'.cell? (ad.add (k * 4)) = some (.int .i64 p.path) ∧ W'.cell? ⟨(ad.add (k * 4)).block, (ad.add (k * 4)).off + 1, none⟩ = some (.int .i64 p.green) ∧ W'.cell? ⟨(ad.add (k * 4)).block, (ad.add (k * 4)).off + 2, none⟩ = some (.int .i64 p.wait) ∧ W'.cell? ⟨(ad.add (k * 4)).block, (ad.add (k * 4)).off + 3, none⟩ = some (.int .i64 p.share) ∧
            W'.cell? (ad2.add (k * 4)) = some (.int .i64 q.path) ∧ W'.cell? ⟨(ad2.add (k * 4)).block, (ad2.add (k * 4)).off + 1, none⟩ = some (.int .i64 q.green) ∧ W'.cell? ⟨(ad2.add (k * 4)).block, (ad2.add (k * 4)).off + 2, none⟩ = some (.int .i64 q.wait) ∧ W'.cell? ⟨(ad2.add (k * 4)).block, (ad2.add (k * 4)).off + 3, none⟩ = some (.int .i64 q.share))
          (first | exact ⟨hq.c0, hq.c1, hq.c2, hq.c3, hq2.c0, hq2.c1, hq2.c2, hq2.c3⟩ | exact ⟨hr.c0, hr.c1, hr.c2, hr.c3, hr2.c0, hr2.c1, hr2.c2, hr2.c3⟩ | fail "keep")
          (first
            | (go_at_call 87; refine (law_eqService p q _).mono ?_; rintro e w3 ⟨rfl, hb3⟩; have hb3' : Below wr.heap.size wr w3 := below_undrew hb3; have hr := hq.below hb3' (by omega); have hr2 := hq2.below hb3' (by omega)))
        have HB := Lib.hid (hbl.trans (hb3'.mono hsz))
        clear hq hq2 hr hr2 hb3 hb3' hbl
        by_cases hpq : p = q
        · have HT : Hid (ps.take (k + 1) = qs.take (k + 1)) := Lib.hid (by rw [List.take_add_one, List.take_add_one, hsame, hp, hp2, hpq])
          rw [decide_eq_true hpq]
          clear hsame hp hp2
          go_wp2
          go_roundw
          case rel => exact ⟨k + 1, by omega, by go_num, HT.out, HB.out⟩
          case measure => simp [intOf]; omega
        · have HN : Hid (decide (ps = qs) = false) := Lib.hid (by rw [decide_eq_false_iff_not]; rintro rfl; rw [hp] at hp2; exact hpq (Option.some.inj hp2))
          rw [decide_eq_false hpq]
          clear hsame hp hp2
          go_wp2
          go_ret
          exact ⟨by rw [HN.out]; rfl, HB.out⟩
      · obtain rfl : k = n := by omega
        have HN : Hid (decide (ps = qs) = true) := Lib.hid (by rw [decide_eq_true_eq]; rwa [List.take_of_length_le (by omega), List.take_of_length_le (by omega)] at hsame)
        go_wp2
        go_ret
        exact ⟨by rw [HN.out]; rfl, hbl⟩
  · have HN : Hid (decide (ps = qs) = false) := Lib.hid (by rw [decide_eq_false_iff_not]; rintro rfl; omega)
    go_enter Try.func41, Try.ntmps41
    go_wp2
    go_ret
    exact ⟨by rw [HN.out]; rfl, Below.refl _ _⟩
theorem sz_svc (A : Option Addr) (n c : Nat) (left : Int) (w : World) (hn : n ≤ 9223372036854775807) (hl : 0 ≤ left ∧ left ≤ 1048576) :
    Calls Try.prog 37 #[.slice A n c, .int .i64 left] w fun e w' => e = .returned (.int .i64 (if (n : Int) ≤ left then left - (n : Int) else -1)) ∧ w = w' := by
  obtain ⟨l1, l2⟩ := hl
  by_cases h : (n : Int) ≤ left
  · rw [if_pos h]
    go_enter Try.func37, Try.ntmps37
    go_wp2
    go_ret
    exact ⟨rfl, rfl⟩
  · rw [if_neg h]
    go_enter Try.func37, Try.ntmps37
    go_wp2
    go_ret
    exact ⟨rfl, rfl⟩
structure SlSvc (w : World) (A : Option Addr) (n c : Nat) (ps : List Svc) : Prop where
  pths : SvcsAt w w.heap.size A n ps
  bare : A = none → n = 0 ∧ c = 0
  small : n ≤ 4294967296
  cap : n ≤ c ∧ c ≤ maxLen
  wf : ∀ p ∈ ps, p.wf
theorem SlSvc.len {w : World} {A : Option Addr} {n c : Nat} {ps : List Svc} (h : SlSvc w A n c ps) : ps.length = n := h.pths.1
theorem SlSvc.below {w w' : World} {A : Option Addr} {n c : Nat} {ps : List Svc} (h : SlSvc w A n c ps) (hb : Below w.heap.size w w') : SlSvc w' A n c ps :=
  ⟨(h.pths.below hb).up hb.size, h.bare, h.small, h.cap, h.wf⟩
structure OwSvc (E : TypeId) (w : World) (lo hi : Nat) (v : Value) (ps : List Svc) : Prop where
  own : w.ownsRow lo E 4 v ps.length (svccells ps)
  lt : ∀ g, v.ownBlock = some g → g < hi
  top : hi ≤ w.heap.size
theorem OwSvc.new {E : TypeId} {w : World} {lo : Nat} {v : Value} {ps : List Svc} (h : w.ownsRow lo E 4 v ps.length (svccells ps)) : OwSvc E w lo w.heap.size v ps := ⟨h, fun g e => (ownr_block h g e).2, Nat.le_refl _⟩
theorem OwSvc.below {E : TypeId} {w w' : World} {lo hi : Nat} {v : Value} {ps : List Svc} (h : OwSvc E w lo hi v ps) (hb : Below w.heap.size w w') : OwSvc E w' lo hi v ps := ⟨ownr_below h.own hb, h.lt, Nat.le_trans h.top hb.size⟩
theorem OwSvc.ints {E : TypeId} {w : World} {lo hi : Nat} {A : Option Addr} {n c : Nat} {ps : List Svc} (h : OwSvc E w lo hi (.slice A n c) ps) : SvcsAt w w.heap.size A n ps := by
  have hn := ownr_len h.own
  subst hn
  exact ⟨rfl, ownr_cells h.own⟩
theorem OwSvc.sl {E : TypeId} {w : World} {lo hi : Nat} {A : Option Addr} {n c : Nat} {ps : List Svc} (h : OwSvc E w lo hi (.slice A n c) ps) (hn : n ≤ 4294967296) (hw : ∀ p ∈ ps, p.wf) : SlSvc w A n c ps :=
  ⟨h.ints, ownr_nilcap h.own, hn, ownr_cap h.own, hw⟩
theorem OwSvc.part {E : TypeId} {w w' : World} {lo hi l h' : Nat} {v : Value} {ps : List Svc} (h : OwSvc E w lo hi v ps) (hp : Part l h' w w') (hd : hi ≤ l ∨ h' ≤ lo) : OwSvc E w' lo hi v ps := by
  refine ⟨⟨h.own.1, ?_⟩, h.lt, Nat.le_trans h.top hp.size⟩
  rcases h.own.2 with h2 | ⟨g, cap, cur, rfl, hl, hg, r⟩
  · exact .inl h2
  · have hlt := h.lt g rfl
    have htop := h.top
    exact .inr ⟨g, cap, cur, rfl, hl, (hp.block g (by omega) (by omega)).trans hg, r⟩
theorem to_svc (A : Option Addr) (n c B : Nat) (ps : List Svc) (w : World) (h : SvcsAt w B A n ps) (hB : B ≤ w.heap.size) (hn : n ≤ 1048576) :
    Calls Try.prog 39 #[.slice A n c] w fun e w' => e = .returned (.slice (some ⟨w.heap.size, 0, none⟩) n n) ∧ w'.ownsRow w.heap.size 114 4 (.slice (some ⟨w.heap.size, 0, none⟩) n n) ps.length (svccells ps) ∧ Below w.heap.size w w' := by
  have hl := h.1
  refine (law_toServiceS A n c B ps w h hB (by omega)).mono fun e w' ⟨h1, h2, h3⟩ => ⟨h1, ?_, h3⟩
  rw [hl]
  exact h2
theorem eqs_svc (A : Option Addr) (n c : Nat) (ps : List Svc) (A2 : Option Addr) (n2 c2 : Nat) (w : World) (h : SvcsAt w w.heap.size A n ps) (h2 : SvcsAt w w.heap.size A2 n2 ps) (hn : n ≤ 1048576) (hn2 : n2 ≤ 1048576) :
    Calls Try.prog 41 #[.slice A n c, .slice A2 n2 c2] w fun e w' => e = .returned (.bool true) ∧ Below w.heap.size w w' :=
  (law_eqServiceS A n c _ ps A2 n2 c2 _ ps w h h2 (Nat.le_refl _) (Nat.le_refl _) (by omega) (by omega)).mono fun e w' ⟨he, hb⟩ => ⟨by rw [he, decide_eq_true rfl], hb⟩
end Go.Proofs.Ytdgpodopkfnpeaa
