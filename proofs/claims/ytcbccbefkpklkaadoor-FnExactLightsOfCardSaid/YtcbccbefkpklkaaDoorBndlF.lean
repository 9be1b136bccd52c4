/- Texts of one chain, put together: Wdw Wnd LawWnd LawDet0 LawWdw. -/
import Derived.Deep.RegionHeld3
import Derived.Deep.DrawnRows
import Derived.Test.YtcbccbefkpklkaaDoorBndlE
set_option linter.unusedSimpArgs false
/- Window as Lean data; rows of them, and the laws' helpers for these (written by gentype.py). -/
namespace Go.Proofs.YtcbccbefkpklkaaDoor
open Go.RowKit
set_option linter.unusedVariables false

structure Wdw where
  frm : Int
  long : Int
deriving DecidableEq
def Wdw.cells (p : Wdw) : List Value := [.int .i64 p.frm, .int .i64 p.long]
def Wdw.val (p : Wdw) : Value := .agg #[.int .i64 p.frm, .int .i64 p.long]
def Wdw.wf (p : Wdw) : Prop := (Lit.int .i64 p.frm).wf = true ∧ (Lit.int .i64 p.long).wf = true
def wdwcells (ps : List Wdw) : List Value := ps.flatMap Wdw.cells
theorem wdwcells_length (ps : List Wdw) : (wdwcells ps).length = ps.length * 2 := flat_length (f := Wdw.cells) (fun _ => rfl) ps
theorem wdwcells_take {ps : List Wdw} {k : Nat} {p : Wdw} (h : ps[k]? = some p) : wdwcells (ps.take (k + 1)) = wdwcells (ps.take k) ++ p.cells := by
  unfold wdwcells
  rw [List.take_add_one, h, List.flatMap_append]
  simp
theorem wdwcells_one (ps : List Wdw) : ∀ u ∈ wdwcells ps, u.oneCell' = true := by
  intro u hu
  obtain ⟨p, _, hp⟩ := List.mem_flatMap.1 hu
  simp only [Wdw.cells, List.mem_cons, List.not_mem_nil, or_false] at hp
  rcases hp with rfl | rfl <;> rfl
theorem wdwcells_put {ps : List Wdw} {zs : List Value} {k : Nat} {p : Wdw} (h : ps[k]? = some p) (hz : k * 2 + 2 ≤ zs.length) :
    ((wdwcells (ps.take k) ++ zs.drop (k * 2)).set (k * 2) (.int .i64 p.frm)).set (k * 2 + 1) (.int .i64 p.long) = wdwcells (ps.take (k + 1)) ++ zs.drop ((k + 1) * 2) := by
  obtain ⟨z0, z1, hd⟩ := drop2 hz
  have hk := (List.getElem?_eq_some_iff.1 h).1
  rw [hd, set2 (by rw [wdwcells_length, List.length_take]; omega), wdwcells_take h]
  simp [Wdw.cells, Nat.add_mul]
def WdwsAt (w : World) (B : Nat) (A : Option Addr) (n : Nat) (ps : List Wdw) : Prop := ps.length = n ∧ CellsAt w B A (n * 2) (wdwcells ps)
theorem WdwsAt.keep {w w' : World} {B : Nat} {A : Option Addr} {n : Nat} {ps : List Wdw} (h : WdwsAt w B A n ps) (hk : ∀ p : Addr, p.block < B → w'.cell? p = w.cell? p) : WdwsAt w' B A n ps := ⟨h.1, h.2.keep hk⟩
theorem WdwsAt.below {w w' : World} {B : Nat} {A : Option Addr} {n : Nat} {ps : List Wdw} (h : WdwsAt w B A n ps) (hb : Below B w w') : WdwsAt w' B A n ps := ⟨h.1, h.2.below hb⟩
theorem WdwsAt.up {w : World} {B B' : Nat} {A : Option Addr} {n : Nat} {ps : List Wdw} (h : WdwsAt w B A n ps) (hB : B ≤ B') : WdwsAt w B' A n ps := ⟨h.1, h.2.up hB⟩
structure WdwAt (w : World) (q : Addr) (p : Wdw) : Prop where
  c0 : w.cell? q = some (.int .i64 p.frm)
  c1 : w.cell? ⟨q.block, q.off + 1, none⟩ = some (.int .i64 p.long)
theorem WdwAt.keep {w w' : World} {q : Addr} {p : Wdw} (h : WdwAt w q p) (e : w'.heap[q.block]? = w.heap[q.block]?) : WdwAt w' q p :=
  ⟨(World.cell?_of_block e).trans h.c0, (World.cell?_of_block (a := ⟨q.block, q.off + 1, none⟩) e).trans h.c1⟩
theorem WdwAt.below {w w' : World} {q : Addr} {p : Wdw} {B : Nat} (h : WdwAt w q p) (hb : Below B w w') (hB : q.block < B) : WdwAt w' q p := h.keep (hb.block _ hB)
theorem wdw_head {w : World} {g : Nat} {p : Wdw} (h : WdwAt w ⟨g, 0, none⟩ p) : w.cell? ⟨g, 0, none⟩ = some (.int .i64 p.frm) ∧ w.cell? ⟨g, 1, none⟩ = some (.int .i64 p.long) := ⟨h.c0, h.c1⟩
theorem wdw_of_block {w : World} {g : Nat} {p : Wdw} {E : TypeId} {fr : Nat × Nat} (h : w.heap[g]? = some (.cells #[.int .i64 p.frm, .int .i64 p.long] E fr)) : WdwAt w ⟨g, 0, none⟩ p :=
  ⟨by rw [cell_of_row w g 0 _ E fr h]; rfl, by rw [cell_of_row w g _ _ E fr h]; rfl⟩
theorem WdwsAt.at {w : World} {B : Nat} {A : Option Addr} {n : Nat} {ps : List Wdw} (h : WdwsAt w B A n ps) {k : Nat} (hk : k < n) : ∃ ad p, A = some ad ∧ (ad.add (k * 2)).block < B ∧ ps[k]? = some p ∧ WdwAt w (ad.add (k * 2)) p := by
  obtain ⟨hl, _, hc⟩ := h
  obtain ⟨ad, e, hb, hc⟩ := hc (by omega)
  have hp : ps[k]? = some ps[k] := List.getElem?_eq_getElem (by omega)
  have hg := fun i (hi : i < 2) => flat_get (f := Wdw.cells) (fun _ => rfl) ps k i _ hp hi
  have ha := fun i (hi : 0 < i) => (add_add ad (k * 2) i).symm.trans (add_plusF _ i hi)
  refine ⟨ad, ps[k], e, by rw [add_block]; exact hb, hp, hc _ _ (hg 0 (by decide)), ?_⟩
  · rw [← ha 1 (by decide)]; exact hc _ _ (hg 1 (by decide))
theorem law_eqWindow (p q : Wdw) (w : World) : Calls Tryd.prog 43 #[p.val, q.val] w fun e w' => e = .returned (.bool (decide (p = q))) ∧ Below w.heap.size w w' := by
  obtain ⟨a, b⟩ := p
  obtain ⟨a', b'⟩ := q
  simp only [Wdw.val, Wdw.mk.injEq]
  have hb0 := ((Below.refl w.heap.size w).alloc (Nat.le_refl _) (.cells #[.int .i64 a, .int .i64 b] 52)).alloc (by simp) (.cells #[.int .i64 a', .int .i64 b'] 52)
  have HB := Lib.hid hb0
  clear hb0
  by_cases h0 : a = a'
  rotate_left
  · have e0 : (a != a') = true := by simpa using h0
    go_enter Tryd.func43, Tryd.ntmps43
    go_wp2
    go_ret
    exact ⟨by simp [h0], HB.out⟩
  subst h0
  by_cases h1 : b = b'
  rotate_left
  · have e0 : (b != b') = true := by simpa using h1
    go_enter Tryd.func43, Tryd.ntmps43
    go_wp2
    go_ret
    exact ⟨by simp [h1], HB.out⟩
  subst h1
  go_enter Tryd.func43, Tryd.ntmps43
  go_wp2
  go_ret
  exact ⟨by simp, HB.out⟩
theorem same_wdw (p : Wdw) (w : World) : Calls Tryd.prog 43 #[p.val, p.val] w fun e w' => e = .returned (.bool true) ∧ Below w.heap.size w w' := (law_eqWindow p p w).mono fun e w' ⟨he, hb⟩ => ⟨by rw [he, decide_eq_true rfl], hb⟩
structure SlWdw (w : World) (A : Option Addr) (n c : Nat) (ps : List Wdw) : Prop where
  pths : WdwsAt w w.heap.size A n ps
  bare : A = none → n = 0 ∧ c = 0
  small : n ≤ 4294967296
  cap : n ≤ c ∧ c ≤ maxLen
  wf : ∀ p ∈ ps, p.wf
theorem SlWdw.len {w : World} {A : Option Addr} {n c : Nat} {ps : List Wdw} (h : SlWdw w A n c ps) : ps.length = n := h.pths.1
theorem SlWdw.below {w w' : World} {A : Option Addr} {n c : Nat} {ps : List Wdw} (h : SlWdw w A n c ps) (hb : Below w.heap.size w w') : SlWdw w' A n c ps :=
  ⟨(h.pths.below hb).up hb.size, h.bare, h.small, h.cap, h.wf⟩
structure OwWdw (E : TypeId) (w : World) (lo hi : Nat) (v : Value) (ps : List Wdw) : Prop where
  own : w.ownsRow lo E 2 v ps.length (wdwcells ps)
  lt : ∀ g, v.ownBlock = some g → g < hi
  top : hi ≤ w.heap.size
theorem OwWdw.new {E : TypeId} {w : World} {lo : Nat} {v : Value} {ps : List Wdw} (h : w.ownsRow lo E 2 v ps.length (wdwcells ps)) : OwWdw E w lo w.heap.size v ps := ⟨h, fun g e => (ownr_block h g e).2, Nat.le_refl _⟩
theorem OwWdw.below {E : TypeId} {w w' : World} {lo hi : Nat} {v : Value} {ps : List Wdw} (h : OwWdw E w lo hi v ps) (hb : Below w.heap.size w w') : OwWdw E w' lo hi v ps := ⟨ownr_below h.own hb, h.lt, Nat.le_trans h.top hb.size⟩
theorem OwWdw.ints {E : TypeId} {w : World} {lo hi : Nat} {A : Option Addr} {n c : Nat} {ps : List Wdw} (h : OwWdw E w lo hi (.slice A n c) ps) : WdwsAt w w.heap.size A n ps := by
  have hn := ownr_len h.own
  subst hn
  exact ⟨rfl, ownr_cells h.own⟩
theorem OwWdw.sl {E : TypeId} {w : World} {lo hi : Nat} {A : Option Addr} {n c : Nat} {ps : List Wdw} (h : OwWdw E w lo hi (.slice A n c) ps) (hn : n ≤ 4294967296) (hw : ∀ p ∈ ps, p.wf) : SlWdw w A n c ps :=
  ⟨h.ints, ownr_nilcap h.own, hn, ownr_cap h.own, hw⟩
theorem OwWdw.part {E : TypeId} {w w' : World} {lo hi l h' : Nat} {v : Value} {ps : List Wdw} (h : OwWdw E w lo hi v ps) (hp : Part l h' w w') (hd : hi ≤ l ∨ h' ≤ lo) : OwWdw E w' lo hi v ps := by
  refine ⟨⟨h.own.1, ?_⟩, h.lt, Nat.le_trans h.top hp.size⟩
  rcases h.own.2 with h2 | ⟨g, cap, cur, rfl, hl, hg, r⟩
  · exact .inl h2
  · have hlt := h.lt g rfl
    have htop := h.top
    exact .inr ⟨g, cap, cur, rfl, hl, (hp.block g (by omega) (by omega)).trans hg, r⟩
end Go.Proofs.YtcbccbefkpklkaaDoor

/- WindowOf: the model and the program. -/
namespace Go.Proofs.YtcbccbefkpklkaaDoor
open Go.RowKit
set_option linter.unusedVariables false

/-- does a window open at this second? -/
def opensAt (zs : List Int) (i : Nat) : Bool := isGr zs i && !isGr zs (i + zs.length - 1)
/-- the first second at which one opens. -/
def openFrom (zs : List Int) : Option Nat := (List.range zs.length).find? (opensAt zs)
/-- for how many seconds it is green from there on. -/
def runL (zs : List Int) (f : Nat) : Nat := ((List.range zs.length).find? fun n => !isGr zs (f + n)).getD 0
/-- the window of a row. -/
def windowR (zs : List Int) : Wdw := match openFrom zs with | none => ⟨0, zs.length⟩ | some f => ⟨f, runL zs f⟩
/-- what WindowOf answers. -/
def windowP (ps : List Pth) (p : List Prt) (id : Int) : Wdw × Bool := if (rowP ps p id).length = 0 ∨ 200 < (rowP ps p id).length then (⟨0, 0⟩, false) else (windowR (rowP ps p id), true)
theorem windowP_off {ps : List Pth} {p : List Prt} {id : Int} (h : (rowP ps p id).length = 0 ∨ 200 < (rowP ps p id).length) : windowP ps p id = (⟨0, 0⟩, false) := by unfold windowP; rw [if_pos h]
theorem windowP_on {ps : List Pth} {p : List Prt} {id : Int} (h : ¬ ((rowP ps p id).length = 0 ∨ 200 < (rowP ps p id).length)) : windowP ps p id = (windowR (rowP ps p id), true) := by unfold windowP; rw [if_neg h]
theorem windowR_none {zs : List Int} (h : ∀ i, i < zs.length → opensAt zs i = false) : windowR zs = ⟨0, zs.length⟩ := by
  unfold windowR
  have : openFrom zs = none := by
    unfold openFrom
    rw [List.find?_eq_none]
    intro x hx
    rw [h x (List.mem_range.1 hx)]
    decide
  rw [this]
theorem windowR_some {zs : List Int} {i : Nat} (hi : i < zs.length) (h : opensAt zs i = true) (hno : ∀ j, j < i → opensAt zs j = false) : windowR zs = ⟨i, runL zs i⟩ := by
  unfold windowR
  have : openFrom zs = some i := by
    unfold openFrom
    rw [List.find?_range_eq_some]
    refine ⟨h, List.mem_range.2 hi, fun j hj => ?_⟩
    rw [hno j hj]
    rfl
  rw [this]
theorem runL_eq {zs : List Int} {f d : Nat} (hd : d < zs.length) (h1 : isGr zs (f + d) = false) (h2 : ∀ e, e < d → isGr zs (f + e) = true) : runL zs f = d := by
  unfold runL
  have : (List.range zs.length).find? (fun n => !isGr zs (f + n)) = some d := by
    rw [List.find?_range_eq_some]
    refine ⟨by rw [h1]; rfl, List.mem_range.2 hd, fun j hj => ?_⟩
    rw [h2 j hj]
    rfl
  rw [this]
  rfl
theorem run_lt {zs : List Int} {f d : Nat} (ho : opensAt zs f = true) (h0 : 0 < zs.length) (h2 : ∀ e, e < d → isGr zs (f + e) = true) : d < zs.length := by
  by_cases q : d < zs.length
  · exact q
  · exfalso
    have := h2 (zs.length - 1) (by omega)
    unfold opensAt at ho
    rw [Bool.and_eq_true] at ho
    have h3 := ho.2
    rw [show f + zs.length - 1 = f + (zs.length - 1) by omega, this] at h3
    cases h3
theorem isGr_val {zs : List Int} {s : Nat} : isGr zs s = (zs.getD (s % zs.length) 0 == 1) := by
  unfold isGr
  rw [Bool.eq_iff_iff, decide_eq_true_eq, beq_iff_eq]
theorem impl_isGreenR (A : Option Addr) (n c B : Nat) (zs : List Int) (s : Nat) (w : World) (h : IntsAt .i64 w B A n zs) (h0 : 0 < n) (hn : n ≤ 1000000) (hs : s ≤ 4000000) :
    Calls Tryd.prog 134 #[.slice A n c, .int .i64 (s : Nat)] w fun e w' => e = .returned (.bool (isGr zs s)) ∧ w = w' := by
  have hg := isGr_val (zs := zs) (s := s)
  rw [h.1] at hg
  have HA := Lib.hid (impl_rowAt A n c B zs s w h h0 hn (by omega))
  generalize zs.getD (s % n) 0 = z at *
  generalize isGr zs s = g at *
  clear h
  go_enter Tryd.func134, Tryd.ntmps134
  go_wp2_with fail
  refine HA.out.mono ?_
  rintro e w1 ⟨rfl, rfl⟩
  go_wp2
  go_ret
  exact ⟨by rw [hg]; try rfl, rfl⟩
set_option maxHeartbeats 2000000 in
theorem impl_windowFrom (A : Option Addr) (n c B : Nat) (zs : List Int) (f : Nat) (w : World) (h : IntsAt .i64 w B A n zs) (hB : B ≤ w.heap.size) (h0 : 0 < n) (hn : n ≤ 1000000) (hf : f < n) (ho : opensAt zs f = true) :
    Calls Tryd.prog 135 #[.slice A n c, .int .i64 (f : Nat)] w fun e w' => e = .returned (.agg #[.int .i64 (f : Nat), .int .i64 (runL zs f : Nat)]) ∧ Below w.heap.size w w' := by
  have hl := h.1
  obtain ⟨wA, hwA⟩ : ∃ wA, wA = (w.alloc (.cells #[.int .i64 0, .int .i64 0] 52)).alloc (.cells #[.int .i64 (f : Nat), .int .i64 0] 52) := ⟨_, rfl⟩
  obtain ⟨hr, hk, hsz, hbA⟩ := two_blocks hwA
  have HG := Lib.hid (fun s x (hx : Below w.heap.size w x) hs => impl_isGreenR A n c B zs s x (h.laid hB hx) h0 hn hs)
  have HRU := Lib.hid (fun d hd h1 h2 => runL_eq (zs := zs) (f := f) (d := d) hd h1 h2)
  have HLT := Lib.hid (fun d h2 => run_lt (zs := zs) (f := f) (d := d) ho (by omega) h2)
  have HR := Lib.hid hr
  have HK := Lib.hid hk
  have HBA := Lib.hid hbA
  rw [hl] at HLT HRU
  clear h hr hk hbA ho hl
  go_enter Tryd.func135, Tryd.ntmps135
  go_wp2
  rw [← hwA]
  clear hwA hsz
  go_loopw [13] (fun u wr => ∃ d : Nat, (∀ e, e < d → isGr zs (f + e) = true) ∧ wr.heap[w.heap.size + 1]? = some (.cells #[.int .i64 (f : Nat), .int .i64 (d : Nat)] 52) ∧ wr.heap[w.heap.size]? = some (.cells #[.int .i64 0, .int .i64 0] 52) ∧ Below w.heap.size w wr) (fun _ wr => n - (intOf ((wr.cell? ⟨w.heap.size + 1, 1, none⟩).getD undef)).toNat)
  case atStart => exact ⟨0, fun e he => absurd he (by omega), HK.out, HR.out, HBA.out⟩
  case round =>
    obtain ⟨d, hgr, hk, hr, hbl⟩ := hrel
    have HKR := Lib.hid hk
    have HRR := Lib.hid hr
    have HBL := Lib.hid hbl
    have HGR := Lib.hid hgr
    have hdn := HLT.out d hgr
    have k0 : wr.cell? ⟨w.heap.size + 1, 0, none⟩ = some (.int .i64 (f : Nat)) := by rw [cell_of_row wr _ 0 _ _ _ hk]; rfl
    have k1 : wr.cell? ⟨w.heap.size + 1, 1, none⟩ = some (.int .i64 (d : Nat)) := by rw [cell_of_row wr _ 1 _ _ _ hk]; rfl
    have fk : ∀ j, wr.frozen? ⟨w.heap.size + 1, j, none⟩ = false := fun j => frozen_of_row _ _ j _ _ hk
    have r0 : wr.cell? ⟨w.heap.size, 0, none⟩ = some (.int .i64 0) := by rw [cell_of_row wr _ 0 _ _ _ hr]; rfl
    have r1 : wr.cell? ⟨w.heap.size, 1, none⟩ = some (.int .i64 0) := by rw [cell_of_row wr _ 1 _ _ _ hr]; rfl
    have fr : ∀ j, wr.frozen? ⟨w.heap.size, j, none⟩ = false := fun j => frozen_of_row _ _ j _ _ hr
    have lk : w.heap.size + 1 < wr.heap.size := lt_of_block hk
    have lr : w.heap.size < wr.heap.size := lt_of_block hr
    obtain ⟨q, hq⟩ : ∃ q, q = f + d := ⟨_, rfl⟩
    obtain ⟨d1, hd1⟩ : ∃ d1, d1 = d + 1 := ⟨_, rfl⟩
    have HGC := Lib.hid (HG.out q wr hbl (by omega))
    have ew : IntKind.i64.wrap ((f : Int) + (d : Int)) = (q : Int) := by rw [IntKind.wrap_i64]; omega
    have ew1 : IntKind.i64.wrap ((d : Int) + 1) = (d1 : Int) := by rw [IntKind.wrap_i64]; omega
    have HQ := Lib.hid hq
    have HD1 := Lib.hid hd1
    clear hgr hk hr hbl hq hd1
    go_wp2_with fail
    refine HGC.out.mono ?_
    cases hg : isGr zs q
    · have HE := Lib.hid (HRU.out d hdn (by rw [← HQ.out]; exact hg) HGR.out)
      clear hg
      rintro e w3 ⟨rfl, rfl⟩
      go_wp2
      refine bodyPost_ret (by rw [results_cell rfl]; go_simp; try rfl) rfl ?_
      exact ⟨by rw [HE.out], (HBL.out.setCell (Nat.le_refl _) _).setCell (Nat.le_refl _) _⟩
    · have HG2 : Hid (∀ e, e < d1 → isGr zs (f + e) = true) := Lib.hid (fun e he => by
        have := HD1.out
        by_cases e1 : e = d
        · rw [e1, ← HQ.out]; exact hg
        · exact HGR.out e (by omega))
      clear hg
      rintro e w3 ⟨rfl, rfl⟩
      go_wp2
      go_roundw
      case rel => exact ⟨d1, HG2.out, by rw [heap_setCell_same _ _ _ _ _ _ HKR.out]; rfl, (heap_setCell_other _ _ _ _ (by simp)).trans HRR.out, HBL.out.setCell (Nat.le_succ _) _⟩
      case measure =>
        have hd1 := HD1.out
        have m1 : (wr.setCell ⟨w.heap.size + 1, 1, none⟩ (.int .i64 (d1 : Nat))).cell? ⟨w.heap.size + 1, 1, none⟩ = some (.int .i64 (d1 : Nat)) := by
          rw [cell_of_row _ _ 1 _ _ _ (heap_setCell_same _ _ _ _ _ _ HKR.out)]; rfl
        have m2 : wr.cell? ⟨w.heap.size + 1, 1, none⟩ = some (.int .i64 (d : Nat)) := by rw [cell_of_row wr _ 1 _ _ _ HKR.out]; rfl
        rw [m1, m2]
        simp [intOf]
        omega
set_option maxHeartbeats 2000000 in
theorem impl_window (A : Option Addr) (n c B : Nat) (zs : List Int) (w : World) (h : IntsAt .i64 w B A n zs) (hB : B ≤ w.heap.size) (h0 : 0 < n) (hn : n ≤ 1000000) :
    Calls Tryd.prog 92 #[.slice A n c] w fun e w' => e = .returned (windowR zs).val ∧ Below w.heap.size w w' := by
  have hl := h.1
  obtain ⟨wA, hwA⟩ : ∃ wA, wA = w.alloc (.cells #[.int .i64 0, .int .i64 0] 52) := ⟨_, rfl⟩
  obtain ⟨hr, hsz, hbA⟩ := one_block hwA
  have HH := Lib.hid h
  have HG := Lib.hid (fun s x (hx : Below w.heap.size w x) hs => impl_isGreenR A n c B zs s x (h.laid hB hx) h0 hn hs)
  have HWF := Lib.hid (fun f x (hx : Below w.heap.size w x) hf ho => impl_windowFrom A n c B zs f x (h.laid hB hx) (Nat.le_trans hB hx.size) h0 hn hf ho)
  have HSO := Lib.hid (fun i hi ho hno => windowR_some (zs := zs) (i := i) hi ho hno)
  have HNO := Lib.hid (fun hh => windowR_none (zs := zs) hh)
  have HOP : Hid (∀ i, opensAt zs i = (isGr zs i && !isGr zs (i + n - 1))) := Lib.hid (fun i => by unfold opensAt; rw [hl])
  have HV : Hid (∀ i, i < n → isGr zs i = (zs.getD i 0 == 1)) := Lib.hid (fun i hi => by rw [isGr_val, hl, Nat.mod_eq_of_lt hi])
  have HR := Lib.hid hr
  have HBA := Lib.hid hbA
  rw [hl] at HSO HNO
  clear h hr hbA hl
  go_enter Tryd.func92, Tryd.ntmps92
  go_wp2
  rw [← hwA]
  clear hwA hsz
  go_loopw [7] (fun i wr => ∃ k : Nat, k ≤ n ∧ i = .int .i64 k ∧ (∀ j, j < k → opensAt zs j = false) ∧ wA = wr) (fun i _ => n - (intOf i).toNat)
  case atStart => exact ⟨0, Nat.zero_le _, rfl, fun j hj => absurd hj (by omega), rfl⟩
  case round =>
    obtain ⟨k, hk, rfl, hgo, rfl⟩ := hrel
    have HGO := Lib.hid hgo
    have r0 : wA.cell? ⟨w.heap.size, 0, none⟩ = some (.int .i64 0) := by rw [cell_of_row wA _ 0 _ _ _ HR.out]; rfl
    have r1 : wA.cell? ⟨w.heap.size, 1, none⟩ = some (.int .i64 0) := by rw [cell_of_row wA _ 1 _ _ _ HR.out]; rfl
    have fr : ∀ j, wA.frozen? ⟨w.heap.size, j, none⟩ = false := fun j => frozen_of_row _ _ j _ _ HR.out
    have lr : w.heap.size < wA.heap.size := lt_of_block HR.out
    clear hgo
    by_cases hlt : k < n
    · obtain ⟨ad, rfl, hab, hcell⟩ := HH.out.2 h0
      have hc := (HBA.out.cell (p := ad.add k) (by rw [add_block]; omega)).trans (hcell k hlt)
      have hv := HV.out k hlt
      have hop := HOP.out k
      have HGK : Hid (opensAt zs k = false → ∀ j, j < k + 1 → opensAt zs j = false) := Lib.hid (fun hh j hj => by
        by_cases e : j = k
        · subst e; exact hh
        · exact HGO.out j (by omega))
      have HSK := Lib.hid (fun ho => HSO.out k hlt ho HGO.out)
      have HWK := Lib.hid (fun ho => HWF.out k wA HBA.out hlt ho)
      obtain ⟨q, hq⟩ : ∃ q, q = k + n - 1 := ⟨_, rfl⟩
      have HGC := Lib.hid (HG.out q wA HBA.out (by omega))
      rw [← hq] at hop
      have ew : IntKind.i64.wrap ((k : Int) + (n : Int)) = (k : Int) + (n : Int) := by rw [IntKind.wrap_i64]; omega
      have ew1 : IntKind.i64.wrap ((k : Int) + (n : Int) - 1) = (q : Int) := by rw [IntKind.wrap_i64]; omega
      have i1 : (0 : Int) ≤ (k : Int) := by omega
      have i2 : (k : Int) < (n : Int) := by omega
      rw [hv] at hop
      have HO := Lib.hid hop
      clear hcell hv hop hq
      generalize zs.getD k 0 = z at *
      generalize opensAt zs k = o at *
      by_cases hz : z = 1
      · have e0 : (z == 1) = true := by rw [hz]; rfl
        go_wp2_with fail
        refine HGC.out.mono ?_
        cases hg : isGr zs q
        · have ho : o = true := by rw [HO.out, e0, hg]; rfl
          have HE := Lib.hid (HSK.out ho)
          have HC := Lib.hid (HWK.out ho)
          clear hg hz
          rintro e w3 ⟨rfl, rfl⟩
          go_wp2_with fail
          refine HC.out.mono ?_
          rintro e w4 ⟨rfl, hb4⟩
          have HB4 := Lib.hid (HBA.out.trans (hb4.mono HBA.out.size))
          have hr4 := (hb4.block _ lr).trans HR.out
          clear r0 r1 fr
          have r0 : w4.cell? ⟨w.heap.size, 0, none⟩ = some (.int .i64 0) := by rw [cell_of_row w4 _ 0 _ _ _ hr4]; rfl
          have r1 : w4.cell? ⟨w.heap.size, 1, none⟩ = some (.int .i64 0) := by rw [cell_of_row w4 _ 1 _ _ _ hr4]; rfl
          have fr : ∀ j, w4.frozen? ⟨w.heap.size, j, none⟩ = false := fun j => frozen_of_row _ _ j _ _ hr4
          have lr4 : w.heap.size < w4.heap.size := lt_of_block hr4
          clear hr4 hb4
          go_wp2
          refine bodyPost_ret (by rw [results_cell rfl]; go_simp; try rfl) rfl ?_
          exact ⟨by rw [HE.out]; rfl, (HB4.out.setCell (Nat.le_refl _) _).setCell (Nat.le_refl _) _⟩
        · have ho : o = false := by rw [HO.out, e0, hg]; rfl
          have HG2 := Lib.hid (HGK.out ho)
          clear hg hz
          rintro e w3 ⟨rfl, rfl⟩
          go_wp2
          go_roundw
          case rel => exact ⟨k + 1, by omega, by go_num, HG2.out, trivial⟩
          case measure => simp [intOf]; omega
      · have e0 : (z == 1) = false := beq_eq_false_iff_ne.2 hz
        have ho : o = false := by rw [HO.out, e0]; rfl
        have HG2 := Lib.hid (HGK.out ho)
        clear hz
        go_wp2
        go_roundw
        case rel => exact ⟨k + 1, by omega, by go_num, HG2.out, trivial⟩
        case measure => simp [intOf]; omega
    · obtain rfl : k = n := by omega
      have HE := Lib.hid (HNO.out HGO.out)
      go_wp2
      refine bodyPost_ret (by rw [results_cell rfl]; go_simp; try rfl) rfl ?_
      exact ⟨by rw [HE.out]; rfl, (HBA.out.setCell (Nat.le_refl _) _).setCell (Nat.le_refl _) _⟩
set_option maxHeartbeats 2000000 in
theorem impl_WindowOf {w : World} {A : Option Addr} {n c B : Nat} {ps : List Pth} {A2 : Option Addr} {n2 c2 B2 : Nat} {p : List Prt} (I : PlnIn w A n c B ps A2 n2 c2 B2 p) (id : Int) :
    Calls Tryd.prog 42 #[.slice A n c, .slice A2 n2 c2, .int .i64 id] w fun e w' => e = .returned (.tuple #[(windowP ps p id).1.val, .bool (windowP ps p id).2]) ∧ Below w.heap.size w w' := by
  obtain ⟨w0, hw0⟩ : ∃ w0, w0 = w.alloc (.cells #[.int .i64 0, .int .i64 0] 52) := ⟨_, rfl⟩
  obtain ⟨hr, hsz, hb0⟩ := one_block hw0
  have HC := Lib.hid (impl_rowFor (I.below hb0) id)
  have HR := Lib.hid hr
  have HB0 := Lib.hid hb0
  have lr0 : w.heap.size < w0.heap.size := by omega
  have hrl := rowP_len (ps := ps) (p := p) id
  have HOF := Lib.hid (fun hh => windowP_off (ps := ps) (p := p) (id := id) hh)
  have HON := Lib.hid (fun hh => windowP_on (ps := ps) (p := p) (id := id) hh)
  clear I hr hb0 hsz
  cases hb : (isPlan ps p && (findK id ps).isSome)
  · have hz := rowP_offM hb
    have HE := Lib.hid (HOF.out (.inl (by rw [hz]; rfl)))
    rw [hb] at HC
    clear hb hz
    go_enter Tryd.func42, Tryd.ntmps42
    go_wp2_with fail
    rw [← hw0]
    refine HC.out.mono ?_
    rintro e w1 ⟨v, rfl, hv, hb1⟩
    obtain ⟨Av, cv, rfl⟩ := ownr_sliced hv
    have HB1 := Lib.hid (HB0.out.trans (hb1.mono HB0.out.size))
    have hr4 := (hb1.block _ lr0).trans HR.out
    have r0 : w1.cell? ⟨w.heap.size, 0, none⟩ = some (.int .i64 0) := by rw [cell_of_row w1 _ 0 _ _ _ hr4]; rfl
    have r1 : w1.cell? ⟨w.heap.size, 1, none⟩ = some (.int .i64 0) := by rw [cell_of_row w1 _ 1 _ _ _ hr4]; rfl
    have fr : ∀ j, w1.frozen? ⟨w.heap.size, j, none⟩ = false := fun j => frozen_of_row _ _ j _ _ hr4
    have lr4 : w.heap.size < w1.heap.size := lt_of_block hr4
    clear hr4 hb1 hv hw0
    go_wp2
    refine bodyPost_ret (by rw [results_cell_tmpF rfl]; go_simp; try rfl) rfl ?_
    exact ⟨by rw [HE.out]; rfl, (HB1.out.setCell (Nat.le_refl _) _).setCell (Nat.le_refl _) _⟩
  · obtain ⟨_, hr0⟩ := rowP_pos hb
    rw [hb] at HC
    clear hb
    generalize rowP ps p id = zs at *
    obtain ⟨m, hm⟩ : ∃ m, m = zs.length := ⟨_, rfl⟩
    have HM := Lib.hid hm
    rw [← hm] at hr0 hrl HC HOF HON
    clear hm
    by_cases hbig : 200 < m
    · have HE := Lib.hid (HOF.out (.inr hbig))
      have e2 : (200 : Int) < (m : Int) := by omega
      go_enter Tryd.func42, Tryd.ntmps42
      go_wp2_with fail
      rw [← hw0]
      refine HC.out.mono ?_
      rintro e w1 ⟨v, rfl, hv, hb1⟩
      obtain ⟨Av, cv, rfl⟩ := ownr_sliced hv
      have HB1 := Lib.hid (HB0.out.trans (hb1.mono HB0.out.size))
      have hr4 := (hb1.block _ lr0).trans HR.out
      have r0 : w1.cell? ⟨w.heap.size, 0, none⟩ = some (.int .i64 0) := by rw [cell_of_row w1 _ 0 _ _ _ hr4]; rfl
      have r1 : w1.cell? ⟨w.heap.size, 1, none⟩ = some (.int .i64 0) := by rw [cell_of_row w1 _ 1 _ _ _ hr4]; rfl
      have fr : ∀ j, w1.frozen? ⟨w.heap.size, j, none⟩ = false := fun j => frozen_of_row _ _ j _ _ hr4
      have lr4 : w.heap.size < w1.heap.size := lt_of_block hr4
      clear hr4 hb1 hv hw0
      go_wp2
      refine bodyPost_ret (by rw [results_cell_tmpF rfl]; go_simp; try rfl) rfl ?_
      exact ⟨by rw [HE.out]; rfl, (HB1.out.setCell (Nat.le_refl _) _).setCell (Nat.le_refl _) _⟩
    · have HE := Lib.hid (HON.out (by omega))
      have e2 : ¬ (200 : Int) < (m : Int) := by omega
      go_enter Tryd.func42, Tryd.ntmps42
      go_wp2_with fail
      rw [← hw0]
      refine HC.out.mono ?_
      rintro e w1 ⟨v, rfl, hv, hb1⟩
      obtain ⟨Av, cv, rfl⟩ := ownr_sliced hv
      rw [HM.out] at hv
      have HIV := Lib.hid (Own.ints (k := .i64) (E := 3) hv)
      rw [← HM.out] at HIV
      have HB1 := Lib.hid (HB0.out.trans (hb1.mono HB0.out.size))
      have hr4 := (hb1.block _ lr0).trans HR.out
      have HR1 := Lib.hid hr4
      clear hr4 hb1 hv hw0
      go_wp2_with fail
      refine (impl_window Av m cv _ zs w1 HIV.out (Nat.le_refl _) hr0 (by omega)).mono ?_
      rintro e w2 ⟨rfl, hb2⟩
      have HB2 := Lib.hid (HB1.out.trans (hb2.mono HB1.out.size))
      have hr4 := (hb2.block _ (lt_of_block HR1.out)).trans HR1.out
      have r0 : w2.cell? ⟨w.heap.size, 0, none⟩ = some (.int .i64 0) := by rw [cell_of_row w2 _ 0 _ _ _ hr4]; rfl
      have r1 : w2.cell? ⟨w.heap.size, 1, none⟩ = some (.int .i64 0) := by rw [cell_of_row w2 _ 1 _ _ _ hr4]; rfl
      have fr : ∀ j, w2.frozen? ⟨w.heap.size, j, none⟩ = false := fun j => frozen_of_row _ _ j _ _ hr4
      have lr4 : w.heap.size < w2.heap.size := lt_of_block hr4
      clear hr4 hb2
      generalize windowR zs = q at *
      obtain ⟨qa, qb⟩ := q
      simp only [Wdw.val]
      go_wp2
      refine bodyPost_ret (by rw [results_cell_tmpF rfl]; go_simp; try rfl) rfl ?_
      exact ⟨by rw [HE.out]; try rfl, (HB2.out.setCell (Nat.le_refl _) _).setCell (Nat.le_refl _) _⟩
set_option maxHeartbeats 4000000 in
theorem spec_WindowOf (A : Option Addr) (n c B : Nat) (ps : List Pth) (A2 : Option Addr) (n2 c2 B2 : Nat) (p : List Prt) (id : Int) (w : World) (h : PthsAt w B A n ps) (hB : B ≤ w.heap.size) (hn : n ≤ 4294967296) (h2 : PrtsAt w B2 A2 n2 p) (hB2 : B2 ≤ w.heap.size) (hn2 : n2 ≤ 1048576) (hm : ∀ j, j < n2 → (prAt p j).stage.length ≤ 1048576) :
    Calls Tryd.prog 41 #[.slice A n c, .slice A2 n2 c2, .int .i64 id] w fun e w' => e = .returned (.tuple #[(windowP ps p id).1.val, .bool (windowP ps p id).2]) ∧ Below w.heap.size w w' := by
  obtain ⟨w0, hw0⟩ : ∃ w0, w0 = w.alloc (.cells #[.int .i64 0, .int .i64 0] 52) := ⟨_, rfl⟩
  obtain ⟨hr, hsz, hb0⟩ := one_block hw0
  have HC := Lib.hid (spec_l9Row A n c B ps A2 n2 c2 B2 p id w0 (h.below (hb0.mono hB)) (Nat.le_trans hB hb0.size) hn (h2.below hB2 hb0) (Nat.le_trans hB2 hb0.size) hn2 hm)
  have HR := Lib.hid hr
  have HB0 := Lib.hid hb0
  have lr0 : w.heap.size < w0.heap.size := by omega
  have hrl := rowP_len (ps := ps) (p := p) id
  have HOF := Lib.hid (fun hh => windowP_off (ps := ps) (p := p) (id := id) hh)
  have HON := Lib.hid (fun hh => windowP_on (ps := ps) (p := p) (id := id) hh)
  clear h h2 hm hr hb0 hsz hB hB2 hn hn2
  cases hb : (isPlan ps p && (findK id ps).isSome)
  · have hz := rowP_offM hb
    have HE := Lib.hid (HOF.out (.inl (by rw [hz]; rfl)))
    rw [hz] at HC
    clear hb hz hrl
    go_enter Tryd.func41, Tryd.ntmps41
    go_wp2_with fail
    rw [← hw0]
    refine HC.out.mono ?_
    rintro e w1 ⟨v, rfl, hv, hb1⟩
    obtain ⟨Av, cv, rfl⟩ := hv.sliced
    have HB1 := Lib.hid (HB0.out.trans (hb1.mono HB0.out.size))
    have hr4 := (hb1.block _ lr0).trans HR.out
    have r0 : w1.cell? ⟨w.heap.size, 0, none⟩ = some (.int .i64 0) := by rw [cell_of_row w1 _ 0 _ _ _ hr4]; rfl
    have r1 : w1.cell? ⟨w.heap.size, 1, none⟩ = some (.int .i64 0) := by rw [cell_of_row w1 _ 1 _ _ _ hr4]; rfl
    have fr : ∀ j, w1.frozen? ⟨w.heap.size, j, none⟩ = false := fun j => frozen_of_row _ _ j _ _ hr4
    have lr4 : w.heap.size < w1.heap.size := lt_of_block hr4
    clear hr4 hb1 hv hw0
    simp only [List.length_nil]
    go_wp2
    refine bodyPost_ret (by rw [results_cell_tmpF rfl]; go_simp; try rfl) rfl ?_
    exact ⟨by rw [HE.out]; rfl, (HB1.out.setCell (Nat.le_refl _) _).setCell (Nat.le_refl _) _⟩
  · obtain ⟨_, hr0⟩ := rowP_pos hb
    clear hb
    generalize rowP ps p id = zs at *
    obtain ⟨m, hm⟩ : ∃ m, m = zs.length := ⟨_, rfl⟩
    have HM := Lib.hid hm
    rw [← hm] at hr0 hrl HOF HON
    have e0 : ((m : Int) == 0) = false := beq_eq_false_iff_ne.2 (by omega)
    by_cases hbig : 200 < m
    · have HE := Lib.hid (HOF.out (.inr hbig))
      have e2 : (200 : Int) < (m : Int) := by omega
      go_enter Tryd.func41, Tryd.ntmps41
      go_wp2_with fail
      rw [← hw0]
      refine HC.out.mono ?_
      rintro e w1 ⟨v, rfl, hv, hb1⟩
      obtain ⟨Av, cv, rfl⟩ := hv.sliced
      have HB1 := Lib.hid (HB0.out.trans (hb1.mono HB0.out.size))
      have hr4 := (hb1.block _ lr0).trans HR.out
      have r0 : w1.cell? ⟨w.heap.size, 0, none⟩ = some (.int .i64 0) := by rw [cell_of_row w1 _ 0 _ _ _ hr4]; rfl
      have r1 : w1.cell? ⟨w.heap.size, 1, none⟩ = some (.int .i64 0) := by rw [cell_of_row w1 _ 1 _ _ _ hr4]; rfl
      have fr : ∀ j, w1.frozen? ⟨w.heap.size, j, none⟩ = false := fun j => frozen_of_row _ _ j _ _ hr4
      have lr4 : w.heap.size < w1.heap.size := lt_of_block hr4
      rw [← hm]
      clear hr4 hb1 hv hw0 hm
      go_wp2
      refine bodyPost_ret (by rw [results_cell_tmpF rfl]; go_simp; try rfl) rfl ?_
      exact ⟨by rw [HE.out]; rfl, (HB1.out.setCell (Nat.le_refl _) _).setCell (Nat.le_refl _) _⟩
    · have HE := Lib.hid (HON.out (by omega))
      have e2 : ¬ (200 : Int) < (m : Int) := by omega
      have HSO := Lib.hid (fun i (hi : i < m) ho hno => windowR_some (zs := zs) (i := i) (by omega) ho hno)
      have HNO := Lib.hid (fun (hh : ∀ i, i < m → opensAt zs i = false) => windowR_none (zs := zs) (fun i hi => hh i (by omega)))
      have HOP : Hid (∀ i, opensAt zs i = (isGr zs i && !isGr zs (i + m - 1))) := Lib.hid (fun i => by unfold opensAt; rw [hm])
      have HV : Hid (∀ i, isGr zs i = (zs.getD (i % m) 0 == 1)) := Lib.hid (fun i => by rw [isGr_val, ← hm])
      have HRU := Lib.hid (fun f d (hd : d < m) h1 h2 => runL_eq (zs := zs) (f := f) (d := d) (by omega) h1 h2)
      have HLT := Lib.hid (fun f d (ho : opensAt zs f = true) h2 => show d < m by have := run_lt (zs := zs) (f := f) (d := d) ho (by omega) h2; omega)
      go_enter Tryd.func41, Tryd.ntmps41
      go_wp2_with fail
      rw [← hw0]
      refine HC.out.mono ?_
      rintro e w1 ⟨v, rfl, hv, hb1⟩
      obtain ⟨Av, cv, rfl⟩ := hv.sliced
      have HB1 := Lib.hid (HB0.out.trans (hb1.mono HB0.out.size))
      have hr4 := (hb1.block _ lr0).trans HR.out
      have r0 : w1.cell? ⟨w.heap.size, 0, none⟩ = some (.int .i64 0) := by rw [cell_of_row w1 _ 0 _ _ _ hr4]; rfl
      have r1 : w1.cell? ⟨w.heap.size, 1, none⟩ = some (.int .i64 0) := by rw [cell_of_row w1 _ 1 _ _ _ hr4]; rfl
      have fr : ∀ j, w1.frozen? ⟨w.heap.size, j, none⟩ = false := fun j => frozen_of_row _ _ j _ _ hr4
      have lr4 : w.heap.size < w1.heap.size := lt_of_block hr4
      have HIV := Lib.hid hv.ints
      rw [← hm] at HIV ⊢
      clear hr4 hb1 hv hw0 hm
      obtain ⟨ad, rfl, hab, hcell⟩ := HIV.out.2 hr0
      have HCE := Lib.hid hcell
      have HZF : Hid (w1.cell? ⟨w.heap.size, 0, none⟩ = some (.int .i64 0) ∧ w1.cell? ⟨w.heap.size, 1, none⟩ = some (.int .i64 0) ∧ (∀ j, w1.frozen? ⟨w.heap.size, j, none⟩ = false) ∧ w.heap.size < w1.heap.size) := Lib.hid ⟨r0, r1, fr, lr4⟩
      clear hcell r0 r1 fr lr4
      go_wp2
      go_loopw [9, 10] (fun x i wr => ∃ k : Nat, k ≤ m ∧ i = .int .i64 k ∧ ((x = .int .i64 (-1) ∧ ∀ j, j < k → opensAt zs j = false) ∨ (∃ f : Nat, k = f + 1 ∧ x = .int .i64 f ∧ opensAt zs f = true ∧ ∀ j, j < f → opensAt zs j = false)) ∧ w1 = wr) (fun _ i _ => m - (intOf i).toNat)
      case atStart => exact ⟨0, Nat.zero_le _, rfl, .inl ⟨rfl, fun j hj => absurd hj (by omega)⟩, rfl⟩
      case round =>
        obtain ⟨k, hk, rfl, hst, rfl⟩ := hrel
        rcases hst with ⟨rfl, hno⟩ | ⟨f, hkf, rfl, hof, hno⟩
        · have HGO := Lib.hid hno
          clear hno
          by_cases hlt : k < m
          · have hck := HCE.out k hlt
            have hv := HV.out k
            rw [Nat.mod_eq_of_lt hlt] at hv
            obtain ⟨y, hy⟩ : ∃ y, y = (k + m - 1) % m := ⟨_, rfl⟩
            have hym : y < m := by rw [hy]; exact Nat.mod_lt _ hr0
            have hcy := HCE.out y hym
            have hvy := HV.out (k + m - 1)
            have hop := HOP.out k
            rw [← hy] at hvy
            rw [hv, hvy] at hop
            have HO := Lib.hid hop
            have HGK : Hid (opensAt zs k = false → ∀ j, j < k + 1 → opensAt zs j = false) := Lib.hid (fun hh j hj => by
              by_cases e : j = k
              · subst e; exact hh
              · exact HGO.out j (by omega))
            have ew : IntKind.i64.wrap ((k : Int) + (m : Int)) = (k : Int) + (m : Int) := by rw [IntKind.wrap_i64]; omega
            have ew1 : IntKind.i64.wrap ((k : Int) + (m : Int) - 1) = (k : Int) + (m : Int) - 1 := by rw [IntKind.wrap_i64]; omega
            have em : ((k : Int) + (m : Int) - 1).tmod (m : Int) = (y : Int) := by
              rw [Int.tmod_eq_emod_of_nonneg (by omega), show (k : Int) + (m : Int) - 1 = ((k + m - 1 : Nat) : Int) by omega, hy, Int.natCast_emod]
            have z1 : ¬ m = 0 := by omega
            have z2 : ¬ (m : Int) = 0 := by omega
            have i1 : (0 : Int) ≤ (k : Int) := by omega
            have i2 : (k : Int) < (m : Int) := by omega
            have j1 : (0 : Int) ≤ (y : Int) := by omega
            have j2 : (y : Int) < (m : Int) := by omega
            clear hv hvy hop hy
            generalize zs.getD k 0 = z at *
            generalize zs.getD y 0 = zy at *
            by_cases hz : z = 1
            · by_cases hq : zy = 1
              · have hof : opensAt zs k = false := by rw [HO.out, hz, hq]; rfl
                have HG2 := Lib.hid (HGK.out hof)
                subst hz hq
                clear hof
                go_wp2
                go_roundw
                case rel => exact ⟨k + 1, by omega, by go_num, .inl ⟨rfl, HG2.out⟩, trivial⟩
                case measure => simp [intOf]; omega
              · have e4 : (zy == 1) = false := beq_eq_false_iff_ne.2 hq
                have e5 : (zy != 1) = true := bne_iff_ne.2 hq
                have hof : opensAt zs k = true := by rw [HO.out, hz, e4]; rfl
                have HOF2 := Lib.hid hof
                subst hz
                clear hof hq
                go_wp2
                go_roundw
                case rel => exact ⟨k + 1, by omega, by go_num, .inr ⟨k, rfl, rfl, HOF2.out, HGO.out⟩, trivial⟩
                case measure => simp [intOf]; omega
            · have e4 : (z == 1) = false := beq_eq_false_iff_ne.2 hz
              have hof : opensAt zs k = false := by rw [HO.out, e4]; rfl
              have HG2 := Lib.hid (HGK.out hof)
              clear hof hz
              go_wp2
              go_roundw
              case rel => exact ⟨k + 1, by omega, by go_num, .inl ⟨rfl, HG2.out⟩, trivial⟩
              case measure => simp [intOf]; omega
          · obtain rfl : k = m := by omega
            have HW := Lib.hid (HNO.out HGO.out)
            obtain ⟨r0, r1, fr, lr4⟩ := HZF.out
            go_wp2
            refine bodyPost_ret (by rw [results_cell_tmpF rfl]; go_simp; try rfl) rfl ?_
            exact ⟨by rw [HE.out, HW.out, ← HM.out]; try rfl, (HB1.out.setCell (Nat.le_refl _) _).setCell (Nat.le_refl _) _⟩
        · have HOF2 := Lib.hid hof
          have HGO := Lib.hid hno
          have HW := Lib.hid (HSO.out f (by omega) hof hno)
          have hfm : f < m := by omega
          have hf0 : ¬ (f : Int) < 0 := by omega
          clear hof hno
          have hcases : (k : Int) < (m : Int) ∨ ¬ (k : Int) < (m : Int) := by omega
          rcases hcases with hlt | hlt
          all_goals
            focus
            go_wp2
            go_loopw [11] (fun x wr => ∃ d : Nat, x = .int .i64 d ∧ (∀ e, e < d → isGr zs (f + e) = true) ∧ w1 = wr) (fun x _ => m - (intOf x).toNat)
            case atStart => exact ⟨0, rfl, fun e he => absurd he (by omega), rfl⟩
            case round =>
              obtain ⟨d, rfl, hgr, rfl⟩ := hrel
              have hdm := HLT.out f d HOF2.out hgr
              have HGR := Lib.hid hgr
              obtain ⟨y, hy⟩ : ∃ y, y = (f + d) % m := ⟨_, rfl⟩
              have hym : y < m := by rw [hy]; exact Nat.mod_lt _ hr0
              have hcy := HCE.out y hym
              have hvy := HV.out (f + d)
              rw [← hy] at hvy
              have HVY := Lib.hid hvy
              have ew : IntKind.i64.wrap ((f : Int) + (d : Int)) = (f : Int) + (d : Int) := by rw [IntKind.wrap_i64]; omega
              have em : ((f : Int) + (d : Int)).tmod (m : Int) = (y : Int) := by
                rw [Int.tmod_eq_emod_of_nonneg (by omega), show (f : Int) + (d : Int) = ((f + d : Nat) : Int) by omega, hy, Int.natCast_emod]
              have ed : IntKind.i64.wrap ((d : Int) + 1) = (d : Int) + 1 := by rw [IntKind.wrap_i64]; omega
              have z1 : ¬ m = 0 := by omega
              have z2 : ¬ (m : Int) = 0 := by omega
              have j1 : (0 : Int) ≤ (y : Int) := by omega
              have j2 : (y : Int) < (m : Int) := by omega
              clear hgr hvy hy
              generalize zs.getD y 0 = zy at *
              by_cases hq : zy = 1
              · have HG2 : Hid (∀ e, e < d + 1 → isGr zs (f + e) = true) := Lib.hid (fun e he => by
                  by_cases e1 : e = d
                  · rw [e1, HVY.out, hq]; rfl
                  · exact HGR.out e (by omega))
                subst hq
                go_wp2
                go_roundw
                case rel => exact ⟨d + 1, by go_num, HG2.out, trivial⟩
                case measure => simp [intOf]; omega
              · have e4 : (zy == 1) = false := beq_eq_false_iff_ne.2 hq
                have HL := Lib.hid (HRU.out f d hdm (by rw [HVY.out, e4]) HGR.out)
                clear hq
                obtain ⟨r0, r1, fr, lr4⟩ := HZF.out
                go_wp2
                refine bodyPost_ret (by rw [results_cell_tmpF rfl]; go_simp; try rfl) rfl ?_
                exact ⟨by rw [HE.out, HW.out, HL.out]; try rfl, (HB1.out.setCell (Nat.le_refl _) _).setCell (Nat.le_refl _) _⟩
end Go.Proofs.YtcbccbefkpklkaaDoor

/- WindowOf as its exact law meets it. -/
namespace Go.Proofs.YtcbccbefkpklkaaDoor
open Go.RowKit
set_option linter.unusedVariables false

theorem sp_WindowOf (A0 : Option Addr) (n0 c0 : Nat) (zs0 : List Pth) (A1 : Option Addr) (n1 c1 : Nat) (zs1 : List Prt) (a2 : Int) (w : World) (h0 : SlP w A0 n0 c0 zs0) (hs0 : n0 ≤ 1048576) (h1 : SlQ w A1 n1 c1 zs1) (hs1 : SmallP zs1) (wa2 : (Lit.int .i64 a2).wf = true) (r0 : Wdw) (r1 : Bool) (hr : windowP zs0 zs1 a2 = (r0, r1)) :
    Calls Tryd.prog 41 #[.slice A0 n0 c0, .slice A1 n1 c1, .int .i64 a2] w fun e w' => e = .returned (.tuple #[r0.val, .bool r1]) ∧ Below w.heap.size w w' := by
  obtain rfl : (windowP zs0 zs1 a2).1 = r0 := by rw [hr]
  obtain rfl : (windowP zs0 zs1 a2).2 = r1 := by rw [hr]
  clear hr
  have hq1 := h1.prts.1
  have hz1 := hs1.1
  exact spec_WindowOf A0 n0 c0 _ zs0 A1 n1 c1 _ zs1 a2 w h0.pths (Nat.le_refl _) (by omega) h1.prts (Nat.le_refl _) (by omega) (hs1.at _ _ hq1.symm (Nat.le_refl _))
theorem im_WindowOf (A0 : Option Addr) (n0 c0 : Nat) (zs0 : List Pth) (A1 : Option Addr) (n1 c1 : Nat) (zs1 : List Prt) (a2 : Int) (w : World) (h0 : SlP w A0 n0 c0 zs0) (hs0 : n0 ≤ 1048576) (h1 : SlQ w A1 n1 c1 zs1) (hs1 : SmallP zs1) (wa2 : (Lit.int .i64 a2).wf = true) (hv0 : Brus w) (hv1 : Clrs w) (r0 : Wdw) (r1 : Bool) (hr : windowP zs0 zs1 a2 = (r0, r1)) :
    Calls Tryd.prog 42 #[.slice A0 n0 c0, .slice A1 n1 c1, .int .i64 a2] w fun e w' => e = .returned (.tuple #[r0.val, .bool r1]) ∧ Below w.heap.size w w' := by
  obtain rfl : (windowP zs0 zs1 a2).1 = r0 := by rw [hr]
  obtain rfl : (windowP zs0 zs1 a2).2 = r1 := by rw [hr]
  clear hr
  have hq1 := h1.prts.1
  have hz1 := hs1.1
  exact impl_WindowOf ⟨h0.pths, Nat.le_refl _, h0.cap, by omega, h1.prts, Nat.le_refl _, by omega, hs1.at _ _ hq1.symm (Nat.le_refl _), hv0, hv1⟩ a2
end Go.Proofs.YtcbccbefkpklkaaDoor

/- A cell of a law's argument that is a bool. -/
namespace Go.Proofs.YtcbccbefkpklkaaDoor
open Go.ChangeShapes Go.WideShapes Go.ChangeAt Go.RowKit Go.Joins
open Go.Deep (oneCellFields open_slice hone_of)

theorem cell_boolF {H : Type} {enc : TypeId × Value → H} {P : Program} {W : World} {b0 : Nat} {sp : Nat → Bool} {hd : Bool} {n : Nat} {t : TypeId} {v : Value} {y : DataW H × List MemPlace} (ht : P.underlying t = some .bool) (h : DataW.trod enc P W b0 sp hd n t [v] = some y) : ∃ a : Bool, v = .bool a ∧ y.2 = [] := by
  obtain ⟨a, h1, h2⟩ := DataW.trod_bool ht h
  simp at h1
  exact ⟨a, h1, by rw [h2]⟩
end Go.Proofs.YtcbccbefkpklkaaDoor

/- A law's arguments that are Window or rows of them (written by gentype.py). -/
namespace Go.Proofs.YtcbccbefkpklkaaDoor
open Go.ChangeShapes Go.WideShapes Go.ChangeAt Go.RowKit Go.Joins
open Go.Deep (oneCellFields open_slice hone_of)
set_option linter.unusedVariables false

section
variable {H : Type} {enc : TypeId × Value → H} {P : Program}
theorem arg_wdw {t : TypeId} {f0 f1 : Field} {W : World} {base : Nat} {v : Value} {d : DataW H} {ps : List MemPlace} (hs : P.underlying t = some (.struct #[f0, f1])) (hone : oneCellFields P #[f0, f1] = true) (hC : P.cellsOf t = 2)
    (h0 : P.underlying f0.type = some (.int .i64)) (h1 : P.underlying f1.type = some (.int .i64))
    (hval : Value.okWide P W .any base t v) (hd : DataW.Trod enc P W 0 (fun _ => true) true t v d ps) : ∃ p : Wdw, v = p.val ∧ p.wf := by
  obtain ⟨v0, v1, y0, y1, n, rfl, -, -, t0, t1⟩ := open_agg2 hs hone hC hval hd
  obtain ⟨a, rfl, w0, -⟩ := cell_int h0 t0
  obtain ⟨b, rfl, w1, -⟩ := cell_int h1 t1
  exact ⟨⟨a, b⟩, rfl, w0, w1⟩
theorem arg_wdws {t e : TypeId} {f0 f1 : Field} {W : World} {base : Nat} {v : Value} {d : DataW H} {ps : List MemPlace} (ht : P.underlying t = some (.slice e)) (he : P.underlying e = some (.struct #[f0, f1])) (hone : oneCellFields P #[f0, f1] = true) (hC : P.cellsOf e = 2)
    (h0 : P.underlying f0.type = some (.int .i64)) (h1 : P.underlying f1.type = some (.int .i64))
    (hval : Value.okWide P W .any base t v) (hd : DataW.Trod enc P W 0 (fun _ => true) true t v d ps) (hlt : ∀ x ∈ ps, x.block < W.heap.size) :
    ∃ (A : Option Addr) (n c : Nat) (zs : List Wdw), v = .slice A n c ∧ (WdwsAt W W.heap.size A n zs ∧ (∀ z ∈ zs, z.wf) ∧ n ≤ c ∧ c ≤ maxLen) := by
  obtain ⟨a, len, cap, rfl⟩ := okWide_slice ht hval
  obtain ⟨fuel, hf⟩ := hd
  rcases open_slice_fields ht he hone (by rw [hC]; rfl) hf with ⟨h1, _⟩ | ⟨a', len', cap', m, D, Pl, hcs, _, hl, hm, hmm, hx, hi⟩
  · have h1' : [Value.slice a len cap] = [Value.slice none 0 0] := h1
    simp only [List.cons.injEq, and_true] at h1'
    exact ⟨none, 0, 0, [], h1', ⟨rfl, rfl, fun h => absurd h (by omega)⟩, by simp, Nat.le_refl _, Nat.zero_le _⟩
  · have h1' : [Value.slice a len cap] = [Value.slice (some a') len' cap'] := hcs
    simp only [List.cons.injEq, and_true] at h1'
    rw [if_pos rfl] at hmm
    subst hmm
    obtain ⟨zs, hzl, hz⟩ := choose_upto (n := len') (R := fun i (p : Wdw) => p.wf ∧ ∀ (j : Nat) u, p.cells[j]? = some u → W.cell? (a'.add (i * 2 + j)) = some u) (fun i hil => by
      obtain ⟨ys, n, _, _, _, hj⟩ := hi i (by omega)
      obtain ⟨v0, y0, c0, _, t0⟩ := hj 0 f0 rfl
      obtain ⟨v1, y1, c1, _, t1⟩ := hj 1 f1 rfl
      obtain ⟨x0, rfl, w0, -⟩ := cell_int h0 t0
      obtain ⟨x1, rfl, w1, -⟩ := cell_int h1 t1
      refine ⟨⟨x0, x1⟩, ⟨w0, w1⟩, fun j u hu => ?_⟩
      match j, hu with
      | 0, hu => simp [Wdw.cells] at hu; subst hu; exact c0
      | 1, hu => simp [Wdw.cells] at hu; subst hu; exact c1
      | j + 2, hu => simp [Wdw.cells] at hu)
    refine ⟨some a', len', m, zs, h1', ⟨hzl, by rw [wdwcells_length, hzl], fun hn => ⟨a', rfl, ?_, fun j u hu => ?_⟩⟩, fun z hzm => ?_, hl, hm⟩
    · have hmem : MemPlace.cell a'.block (a'.off + 0) ∈ ps := by
        have e := congrArg Prod.snd hx
        simp only at e
        rw [e]
        exact List.mem_append_left _ (List.mem_map.2 ⟨0, List.mem_range.2 (by simp; omega), rfl⟩)
      exact hlt _ hmem
    · have hlen : j < zs.length * 2 := by
        have := (List.getElem?_eq_some_iff.1 hu).1
        rwa [wdwcells_length] at this
      have hd4 : j / 2 < zs.length := by omega
      have hp : zs[j / 2]? = some zs[j / 2] := List.getElem?_eq_getElem hd4
      have hg := flat_get (s := 2) (f := Wdw.cells) (fun _ => rfl) zs (j / 2) (j % 2) _ hp (by omega)
      have ej : j / 2 * 2 + j % 2 = j := by clear hi hz hx; omega
      rw [ej] at hg
      have := (hz _ _ hp).2 (j % 2) u (hg.symm.trans hu)
      rwa [ej] at this
    · obtain ⟨i, hil, rfl⟩ := List.getElem_of_mem hzm
      exact (hz i _ (List.getElem?_eq_getElem hil)).1
end
end Go.Proofs.YtcbccbefkpklkaaDoor
