/- Texts of one chain, put together: Svc Worst ClrP ClrI Lwt Lwd Lws LawLwt LawDet0 LawWnt. -/
import Derived.Deep.RegionHeld3
import Derived.Deep.DrawnRows
import Derived.Lib.SliceRun
import Derived.Deep.QuietTactic
import Derived.BigQuiet
import Derived.Test.YtlpkafhapmkkfaaBndlD
set_option linter.unusedSimpArgs false
/- Service as Lean data; rows of them, and the laws' helpers for these (written by gentype.py). -/
namespace Go.Proofs.Ytlpkafhapmkkfaa
open Go.RowKit
set_option linter.unusedVariables false

structure Svc where
  path : Int
  green : Int
  wait : Int
  share : Int
deriving DecidableEq
def Svc.cells (p : Svc) : List Value := [.int .i64 p.path, .int .i64 p.green, .int .i64 p.wait, .int .i64 p.share]
def Svc.val (p : Svc) : Value := .agg #[.int .i64 p.path, .int .i64 p.green, .int .i64 p.wait, .int .i64 p.share]
def Svc.wf (p : Svc) : Prop := (Lit.int .i64 p.path).wf = true ∧ (Lit.int .i64 p.green).wf = true ∧ (Lit.int .i64 p.wait).wf = true ∧ (Lit.int .i64 p.share).wf = true
def svccells (ps : List Svc) : List Value := ps.flatMap Svc.cells
theorem svccells_length (ps : List Svc) : (svccells ps).length = ps.length * 4 := flat_length (f := Svc.cells) (fun _ => rfl) ps
theorem svccells_take {ps : List Svc} {k : Nat} {p : Svc} (h : ps[k]? = some p) : svccells (ps.take (k + 1)) = svccells (ps.take k) ++ p.cells := by
  unfold svccells
  rw [List.take_add_one, h, List.flatMap_append]
  simp
theorem svccells_one (ps : List Svc) : ∀ u ∈ svccells ps, u.oneCell' = true := by
  intro u hu
  obtain ⟨p, _, hp⟩ := List.mem_flatMap.1 hu
  simp only [Svc.cells, List.mem_cons, List.not_mem_nil, or_false] at hp
  rcases hp with rfl | rfl | rfl | rfl <;> rfl
theorem svccells_put {ps : List Svc} {zs : List Value} {k : Nat} {p : Svc} (h : ps[k]? = some p) (hz : k * 4 + 4 ≤ zs.length) :
    ((((svccells (ps.take k) ++ zs.drop (k * 4)).set (k * 4) (.int .i64 p.path)).set (k * 4 + 1) (.int .i64 p.green)).set (k * 4 + 2) (.int .i64 p.wait)).set (k * 4 + 3) (.int .i64 p.share) = svccells (ps.take (k + 1)) ++ zs.drop ((k + 1) * 4) := by
  obtain ⟨z0, z1, z2, z3, hd⟩ := drop4 hz
  have hk := (List.getElem?_eq_some_iff.1 h).1
  rw [hd, set4 (by rw [svccells_length, List.length_take]; omega), svccells_take h]
  simp [Svc.cells, Nat.add_mul]
def SvcsAt (w : World) (B : Nat) (A : Option Addr) (n : Nat) (ps : List Svc) : Prop := ps.length = n ∧ CellsAt w B A (n * 4) (svccells ps)
theorem SvcsAt.keep {w w' : World} {B : Nat} {A : Option Addr} {n : Nat} {ps : List Svc} (h : SvcsAt w B A n ps) (hk : ∀ p : Addr, p.block < B → w'.cell? p = w.cell? p) : SvcsAt w' B A n ps := ⟨h.1, h.2.keep hk⟩
theorem SvcsAt.below {w w' : World} {B : Nat} {A : Option Addr} {n : Nat} {ps : List Svc} (h : SvcsAt w B A n ps) (hb : Below B w w') : SvcsAt w' B A n ps := ⟨h.1, h.2.below hb⟩
theorem SvcsAt.up {w : World} {B B' : Nat} {A : Option Addr} {n : Nat} {ps : List Svc} (h : SvcsAt w B A n ps) (hB : B ≤ B') : SvcsAt w B' A n ps := ⟨h.1, h.2.up hB⟩
structure SvcAt (w : World) (q : Addr) (p : Svc) : Prop where
  c0 : w.cell? q = some (.int .i64 p.path)
  c1 : w.cell? ⟨q.block, q.off + 1, none⟩ = some (.int .i64 p.green)
  c2 : w.cell? ⟨q.block, q.off + 2, none⟩ = some (.int .i64 p.wait)
  c3 : w.cell? ⟨q.block, q.off + 3, none⟩ = some (.int .i64 p.share)
theorem SvcAt.keep {w w' : World} {q : Addr} {p : Svc} (h : SvcAt w q p) (e : w'.heap[q.block]? = w.heap[q.block]?) : SvcAt w' q p :=
  ⟨(World.cell?_of_block e).trans h.c0, (World.cell?_of_block (a := ⟨q.block, q.off + 1, none⟩) e).trans h.c1, (World.cell?_of_block (a := ⟨q.block, q.off + 2, none⟩) e).trans h.c2, (World.cell?_of_block (a := ⟨q.block, q.off + 3, none⟩) e).trans h.c3⟩
theorem SvcAt.below {w w' : World} {q : Addr} {p : Svc} {B : Nat} (h : SvcAt w q p) (hb : Below B w w') (hB : q.block < B) : SvcAt w' q p := h.keep (hb.block _ hB)
theorem svc_head {w : World} {g : Nat} {p : Svc} (h : SvcAt w ⟨g, 0, none⟩ p) : w.cell? ⟨g, 0, none⟩ = some (.int .i64 p.path) ∧ w.cell? ⟨g, 1, none⟩ = some (.int .i64 p.green) ∧ w.cell? ⟨g, 2, none⟩ = some (.int .i64 p.wait) ∧ w.cell? ⟨g, 3, none⟩ = some (.int .i64 p.share) := ⟨h.c0, h.c1, h.c2, h.c3⟩
theorem svc_of_block {w : World} {g : Nat} {p : Svc} {E : TypeId} {fr : Nat × Nat} (h : w.heap[g]? = some (.cells #[.int .i64 p.path, .int .i64 p.green, .int .i64 p.wait, .int .i64 p.share] E fr)) : SvcAt w ⟨g, 0, none⟩ p :=
  ⟨by rw [cell_of_row w g 0 _ E fr h]; rfl, by rw [cell_of_row w g _ _ E fr h]; rfl, by rw [cell_of_row w g _ _ E fr h]; rfl, by rw [cell_of_row w g _ _ E fr h]; rfl⟩
theorem SvcsAt.at {w : World} {B : Nat} {A : Option Addr} {n : Nat} {ps : List Svc} (h : SvcsAt w B A n ps) {k : Nat} (hk : k < n) : ∃ ad p, A = some ad ∧ (ad.add (k * 4)).block < B ∧ ps[k]? = some p ∧ SvcAt w (ad.add (k * 4)) p := by
  obtain ⟨hl, _, hc⟩ := h
  obtain ⟨ad, e, hb, hc⟩ := hc (by omega)
  have hp : ps[k]? = some ps[k] := List.getElem?_eq_getElem (by omega)
  have hg := fun i (hi : i < 4) => flat_get (f := Svc.cells) (fun _ => rfl) ps k i _ hp hi
  have ha := fun i (hi : 0 < i) => (add_add ad (k * 4) i).symm.trans (add_plusF _ i hi)
  refine ⟨ad, ps[k], e, by rw [add_block]; exact hb, hp, hc _ _ (hg 0 (by decide)), ?_, ?_, ?_⟩
  · rw [← ha 1 (by decide)]; exact hc _ _ (hg 1 (by decide))
  · rw [← ha 2 (by decide)]; exact hc _ _ (hg 2 (by decide))
  · rw [← ha 3 (by decide)]; exact hc _ _ (hg 3 (by decide))
structure SlSvc (w : World) (A : Option Addr) (n c : Nat) (ps : List Svc) : Prop where
  pths : SvcsAt w w.heap.size A n ps
  bare : A = none → n = 0 ∧ c = 0
  small : n ≤ 4294967296
  cap : n ≤ c ∧ c ≤ maxLen
  wf : ∀ p ∈ ps, p.wf
theorem SlSvc.len {w : World} {A : Option Addr} {n c : Nat} {ps : List Svc} (h : SlSvc w A n c ps) : ps.length = n := h.pths.1
theorem SlSvc.below {w w' : World} {A : Option Addr} {n c : Nat} {ps : List Svc} (h : SlSvc w A n c ps) (hb : Below w.heap.size w w') : SlSvc w' A n c ps :=
  ⟨(h.pths.below hb).up hb.size, h.bare, h.small, h.cap, h.wf⟩
structure OwSvc (E : TypeId) (w : World) (lo hi : Nat) (v : Value) (ps : List Svc) : Prop where
  own : w.ownsRow lo E 4 v ps.length (svccells ps)
  lt : ∀ g, v.ownBlock = some g → g < hi
  top : hi ≤ w.heap.size
theorem OwSvc.new {E : TypeId} {w : World} {lo : Nat} {v : Value} {ps : List Svc} (h : w.ownsRow lo E 4 v ps.length (svccells ps)) : OwSvc E w lo w.heap.size v ps := ⟨h, fun g e => (ownr_block h g e).2, Nat.le_refl _⟩
theorem OwSvc.below {E : TypeId} {w w' : World} {lo hi : Nat} {v : Value} {ps : List Svc} (h : OwSvc E w lo hi v ps) (hb : Below w.heap.size w w') : OwSvc E w' lo hi v ps := ⟨ownr_below h.own hb, h.lt, Nat.le_trans h.top hb.size⟩
theorem OwSvc.ints {E : TypeId} {w : World} {lo hi : Nat} {A : Option Addr} {n c : Nat} {ps : List Svc} (h : OwSvc E w lo hi (.slice A n c) ps) : SvcsAt w w.heap.size A n ps := by
  have hn := ownr_len h.own
  subst hn
  exact ⟨rfl, ownr_cells h.own⟩
theorem OwSvc.sl {E : TypeId} {w : World} {lo hi : Nat} {A : Option Addr} {n c : Nat} {ps : List Svc} (h : OwSvc E w lo hi (.slice A n c) ps) (hn : n ≤ 4294967296) (hw : ∀ p ∈ ps, p.wf) : SlSvc w A n c ps :=
  ⟨h.ints, ownr_nilcap h.own, hn, ownr_cap h.own, hw⟩
theorem OwSvc.part {E : TypeId} {w w' : World} {lo hi l h' : Nat} {v : Value} {ps : List Svc} (h : OwSvc E w lo hi v ps) (hp : Part l h' w w') (hd : hi ≤ l ∨ h' ≤ lo) : OwSvc E w' lo hi v ps := by
  refine ⟨⟨h.own.1, ?_⟩, h.lt, Nat.le_trans h.top hp.size⟩
  rcases h.own.2 with h2 | ⟨g, cap, cur, rfl, hl, hg, r⟩
  · exact .inl h2
  · have hlt := h.lt g rfl
    have htop := h.top
    exact .inr ⟨g, cap, cur, rfl, hl, (hp.block g (by omega) (by omega)).trans hg, r⟩
end Go.Proofs.Ytlpkafhapmkkfaa

/- Chapter 32: WorstService: program and model. -/
namespace Go.Proofs.Ytlpkafhapmkkfaa
open Go.RowKit
set_option linter.unusedVariables false

/-- what cmp.Compare answers. -/
def cmpI (a b : Int) : Int := if a < b then -1 else if a > b then 1 else 0
theorem impl_isNaN (a : Int) (w : World) : Calls Try.prog 113 #[.int .i64 a] w fun e w' => e = .returned (.bool false) ∧ w = w' := by
  have e1 : (a != a) = false := by simp
  go_enter Try.func113, Try.ntmps113
  go_wp2
  go_ret
  exact ⟨rfl, rfl⟩
theorem impl_cmp (a b : Int) (w : World) : Calls Try.prog 80 #[.int .i64 a, .int .i64 b] w fun e w' => e = .returned (.int .i64 (cmpI a b)) ∧ w = w' := by
  by_cases h1 : a < b
  · have HV : Hid (cmpI a b = -1) := Lib.hid (by unfold cmpI; rw [if_pos h1])
    go_enter Try.func80, Try.ntmps80
    go_wp2_with (go_at_call 113; refine (impl_isNaN _ _).mono ?_; rintro e w' ⟨rfl, rfl⟩)
    go_ret
    exact ⟨by rw [HV.out]; try rfl, rfl⟩
  · by_cases h2 : a > b
    · have HV : Hid (cmpI a b = 1) := Lib.hid (by unfold cmpI; rw [if_neg h1, if_pos h2])
      go_enter Try.func80, Try.ntmps80
      go_wp2_with (go_at_call 113; refine (impl_isNaN _ _).mono ?_; rintro e w' ⟨rfl, rfl⟩)
      go_ret
      exact ⟨by rw [HV.out]; try rfl, rfl⟩
    · have HV : Hid (cmpI a b = 0) := Lib.hid (by unfold cmpI; rw [if_neg h1, if_neg h2])
      go_enter Try.func80, Try.ntmps80
      go_wp2_with (go_at_call 113; refine (impl_isNaN _ _).mono ?_; rintro e w' ⟨rfl, rfl⟩)
      go_ret
      exact ⟨by rw [HV.out]; try rfl, rfl⟩
def svcA (zs : List Svc) (k : Nat) : Svc := zs.getD k ⟨0, 0, 0, 0⟩
theorem svcA_some {zs : List Svc} {k : Nat} {x : Svc} (h : zs[k]? = some x) : svcA zs k = x := by unfold svcA; rw [List.getD_eq_getElem?_getD, h]; rfl
def wst (m x : Svc) : Svc := if x.wait > m.wait then x else m
/-- the first one with the greatest Wait of the first one and of the first k. -/
def wstK (zs : List Svc) : Nat → Svc
  | 0 => svcA zs 0
  | k + 1 => wst (wstK zs k) (svcA zs k)
/-- what WorstService answers. -/
def worstS (zs : List Svc) : Int := if zs.length = 0 then 0 else (wstK zs zs.length).path
theorem wstK_one (zs : List Svc) : wstK zs 1 = svcA zs 0 := by
  show wst (svcA zs 0) (svcA zs 0) = _
  unfold wst
  split <;> rfl
theorem wstK_yes {zs : List Svc} {k : Nat} {x : Svc} (hx : zs[k]? = some x) (h : x.wait > (wstK zs k).wait) : wstK zs (k + 1) = x := by show wst _ _ = _; unfold wst; rw [svcA_some hx, if_pos h]
theorem wstK_no {zs : List Svc} {k : Nat} {x : Svc} (hx : zs[k]? = some x) (h : ¬ x.wait > (wstK zs k).wait) : wstK zs (k + 1) = wstK zs k := by show wst _ _ = _; unfold wst; rw [svcA_some hx, if_neg h]
end Go.Proofs.Ytlpkafhapmkkfaa

/- Chapter 7's answers as Lean data; no program. -/
namespace Go.Proofs.Ytlpkafhapmkkfaa
open Go.RowKit
set_option linter.unusedVariables false

/-- what StaysOpen and Closes answer. -/
def stayL (zs ys : List Int) : List Int := zs.filter fun z => hasI ys z
def closL (zs ys : List Int) : List Int := zs.filter fun z => !hasI ys z
/-- the same with the wanted answer given. -/
def pickL (zs ys : List Int) (b : Bool) : List Int := zs.filter fun z => hasI ys z == b
theorem pick_true (zs ys : List Int) : pickL zs ys true = stayL zs ys := by
  unfold pickL stayL
  congr
  funext z
  cases hasI ys z <;> rfl
theorem pick_false (zs ys : List Int) : pickL zs ys false = closL zs ys := by
  unfold pickL closL
  congr
  funext z
  cases hasI ys z <;> rfl
theorem pick_zero (zs ys : List Int) (b : Bool) : pickL (zs.take 0) ys b = [] := by simp [pickL]
theorem pick_yes {zs ys : List Int} {b : Bool} {k : Nat} (hk : k < zs.length) (h : hasI ys (zs.getD k 0) = b) : pickL (zs.take (k + 1)) ys b = pickL (zs.take k) ys b ++ [zs.getD k 0] := by
  have e : zs[k]? = some (zs.getD k 0) := by rw [List.getD_eq_getElem?_getD, List.getElem?_eq_getElem hk]; rfl
  unfold pickL
  rw [List.take_add_one, e, List.filter_append]
  simp only [Option.toList, List.filter_cons, List.filter_nil, h, beq_self_eq_true, if_true]
theorem pick_no {zs ys : List Int} {b : Bool} {k : Nat} (hk : k < zs.length) (h : hasI ys (zs.getD k 0) = !b) : pickL (zs.take (k + 1)) ys b = pickL (zs.take k) ys b := by
  have e : zs[k]? = some (zs.getD k 0) := by rw [List.getD_eq_getElem?_getD, List.getElem?_eq_getElem hk]; rfl
  unfold pickL
  rw [List.take_add_one, e, List.filter_append]
  have h3 : (hasI ys (zs.getD k 0) == b) = false := by rw [h]; cases b <;> rfl
  rw [show (some (zs.getD k 0)).toList = [zs.getD k 0] from rfl, List.filter_cons_of_neg (by rw [h3]; simp), List.filter_nil, List.append_nil]
theorem pick_len (zs ys : List Int) (b : Bool) : (pickL zs ys b).length ≤ zs.length := List.length_filter_le _ _
theorem pick_len_take (zs ys : List Int) (b : Bool) (k : Nat) : (pickL (zs.take k) ys b).length ≤ k := Nat.le_trans (pick_len _ _ _) (by rw [List.length_take]; omega)
/-- what ClearOf answers. -/
def clearN (p : Pth) : Int := if isP p then (if p.kind = 1 then 2 else if p.kind = 2 then 5 else 3) else 0
theorem clearN_bound (p : Pth) : 0 ≤ clearN p ∧ clearN p ≤ 5 := by
  unfold clearN
  split
  · split
    · omega
    · split <;> omega
  · omega
/-- the greatest of the first k. -/
def mostTo (ps : List Pth) : Nat → Int
  | 0 => 0
  | k + 1 => maxI (mostTo ps k) (clearN (pAt ps k))
theorem mostTo_bound (ps : List Pth) : ∀ k, 0 ≤ mostTo ps k ∧ mostTo ps k ≤ 5
  | 0 => by simp [mostTo]
  | k + 1 => by
    obtain ⟨h1, h2⟩ := mostTo_bound ps k
    obtain ⟨h3, h4⟩ := clearN_bound (pAt ps k)
    show 0 ≤ maxI _ _ ∧ maxI _ _ ≤ 5
    unfold maxI
    split <;> omega
/-- what LongestClear answers. -/
def longC (ps : List Pth) : Int := if arePs ps then mostTo ps ps.length else 0
end Go.Proofs.Ytlpkafhapmkkfaa

/- Chapter 7's program: StaysOpen, Closes. -/
namespace Go.Proofs.Ytlpkafhapmkkfaa
open Go.RowKit
set_option linter.unusedVariables false

theorem impl_Index (A : Option Addr) (n c B : Nat) (zs : List Int) (x : Int) (w : World) (h : IntsAt .i64 w B A n zs) (hn : n ≤ 4294967296) :
    Calls Try.prog 112 #[.slice A n c, .int .i64 x] w fun e w' => (∃ r : Int, e = .returned (.int .i64 r) ∧ -1 ≤ r ∧ r ≤ 4294967296 ∧ (decide (0 ≤ r)) = hasI zs x) ∧ w = w' := by
  have hl := h.1
  go_enter Try.func112, Try.ntmps112
  go_wp2
  go_loop [8] (fun i => ∃ k : Nat, k ≤ n ∧ i = .int .i64 k ∧ ∀ j, j < k → zs.getD j 0 ≠ x) (fun i => n - (intOf i).toNat)
  case atStart => exact ⟨0, Nat.zero_le _, rfl, fun j hj => absurd hj (by omega)⟩
  case round =>
    obtain ⟨k, hk, rfl, hno⟩ := hrel
    by_cases hlt : k < n
    · obtain ⟨ad, rfl, hab, hcell⟩ := h.2 (by omega)
      have hc := hcell k hlt
      have HN := Lib.hid hno
      clear hno hcell
      by_cases he : zs.getD k 0 = x
      · have HR : Hid (hasI zs x = true) := Lib.hid (hasI_yes (by omega) he)
        rw [he] at hc
        clear he
        go_wp2
        go_ret
        exact ⟨⟨(k : Int), rfl, by omega, by omega, by rw [HR.out]; simp⟩, rfl⟩
      · have HS : Hid (∀ j, j < k + 1 → zs.getD j 0 ≠ x) := Lib.hid (fun j hj => by
          by_cases e : j = k
          · subst e; exact he
          · exact HN.out j (by omega))
        generalize zs.getD k 0 = z at *
        have e1 : (z == x) = false := by simpa using he
        have e2 : (x == z) = false := by simpa using fun e => he e.symm
        clear he
        go_wp2
        go_round
        case rel => exact ⟨k + 1, by omega, by go_num, HS.out⟩
        case measure => simp [intOf]; omega
    · obtain rfl : k = n := by omega
      have HR : Hid (hasI zs x = false) := Lib.hid (hasI_no (fun i hi => hno i (by omega)))
      clear hno
      go_wp2
      go_ret
      exact ⟨⟨-1, rfl, by omega, by omega, by rw [HR.out]; rfl⟩, rfl⟩
theorem impl_Contains (A : Option Addr) (n c B : Nat) (zs : List Int) (x : Int) (w : World) (h : IntsAt .i64 w B A n zs) (hn : n ≤ 4294967296) :
    Calls Try.prog 77 #[.slice A n c, .int .i64 x] w fun e w' => e = .returned (.bool (hasI zs x)) ∧ w = w' := by
  go_enter Try.func77, Try.ntmps77
  go_wp2_with fail
  refine (impl_Index A n c B zs x _ h hn).mono ?_
  rintro e w1 ⟨⟨r, rfl, h1, h2, h3⟩, rfl⟩
  have HR := Lib.hid h3
  clear h3
  by_cases h0 : 0 ≤ r
  · go_wp2
    go_ret
    exact ⟨by rw [← HR.out, decide_eq_true (by omega)]; rfl, rfl⟩
  · go_wp2
    go_ret
    exact ⟨by rw [← HR.out, decide_eq_false (by omega)]; rfl, rfl⟩
end Go.Proofs.Ytlpkafhapmkkfaa

/- Chapter 15: LongestWant: the program. -/
namespace Go.Proofs.Ytlpkafhapmkkfaa
open Go.RowKit
set_option linter.unusedVariables false

/-- the wants whose path is not in the stage. -/
def othW (zs : List Wnt) (st : List Int) : List Wnt := zs.filter (fun p => !hasI st p.path)
theorem othW_succ {zs : List Wnt} {st : List Int} {k : Nat} {p : Wnt} (h : zs[k]? = some p) : othW (zs.take (k + 1)) st = othW (zs.take k) st ++ (if hasI st p.path then [] else [p]) := by
  unfold othW
  rw [List.take_add_one, h, List.filter_append]
  cases hh : hasI st p.path <;> simp [hh]
theorem othW_yes {zs : List Wnt} {st : List Int} {k : Nat} {p : Wnt} (h : zs[k]? = some p) (hh : hasI st p.path = true) : othW (zs.take (k + 1)) st = othW (zs.take k) st := by rw [othW_succ h, hh]; simp
theorem othW_no {zs : List Wnt} {st : List Int} {k : Nat} {p : Wnt} (h : zs[k]? = some p) (hh : hasI st p.path = false) : othW (zs.take (k + 1)) st = othW (zs.take k) st ++ [p] := by rw [othW_succ h, hh]; simp
theorem othW_le (zs : List Wnt) (st : List Int) (k : Nat) : (othW (zs.take k) st).length ≤ k := Nat.le_trans (List.length_filter_le _ _) (by rw [List.length_take]; omega)
/-- what LongestWant answers. -/
def longP (zs : List Wnt) (st : List Int) : Int := if (othW zs st).length = 0 then 0 else (gtK (othW zs st) (othW zs st).length).path
theorem impl_LngWant1 (g : Nat) (A2 : Option Addr) (n2 c2 B2 : Nat) (st : List Int) (p : Wnt) (w : World) (hc : w.cell? ⟨g, 0, none⟩ = some (.slice A2 n2 c2)) (hg : g < w.heap.size) (h2 : IntsAt .i64 w B2 A2 n2 st) (hB2 : B2 ≤ w.heap.size) (hn2 : n2 ≤ 4294967296) :
    Calls Try.prog 76 #[p.val, .pointer (some ⟨g, 0, none⟩)] w fun e w' => e = .returned (.bool (hasI st p.path)) ∧ Below w.heap.size w w' := by
  obtain ⟨a, b⟩ := p
  simp only [Wnt.val] at *
  have hb0 := (Below.refl w.heap.size w).alloc (Nat.le_refl _) (.cells #[.int .i64 a, .int .i64 b] 95)
  have hcell := (hb0.cell (p := ⟨g, 0, none⟩) hg).trans hc
  have HC := Lib.hid (impl_Contains A2 n2 c2 B2 st a _ (h2.laid hB2 hb0) hn2)
  have HB0 := Lib.hid hb0
  clear hb0 hc h2
  go_enter Try.func76, Try.ntmps76
  go_wp2_with fail
  refine HC.out.mono ?_
  rintro e w' ⟨rfl, rfl⟩
  go_wp2
  go_ret
  exact ⟨rfl, HB0.out⟩
set_option maxHeartbeats 1000000 in
theorem idx_LngWant (g : Nat) (A2 : Option Addr) (n2 c2 B2 : Nat) (st : List Int) (A : Option Addr) (n c B : Nat) (zs : List Wnt) (w : World) (hc : w.cell? ⟨g, 0, none⟩ = some (.slice A2 n2 c2)) (hg : g < w.heap.size) (h2 : IntsAt .i64 w B2 A2 n2 st) (hB2 : B2 ≤ w.heap.size) (hn2 : n2 ≤ 4294967296)
    (h : WntsAt w B A n zs) (hB : B ≤ w.heap.size) (hn : n ≤ 4294967296) :
    Calls Try.prog 111 #[.slice A n c, .func (.func 76) #[] #[.pointer (some ⟨g, 0, none⟩)]] w fun e w' => ∃ r : Int, e = .returned (.int .i64 r) ∧ ((r = -1 ∧ othW zs st = zs) ∨ (∃ k : Nat, k < n ∧ r = k ∧ othW (zs.take (k + 1)) st = zs.take k)) ∧ Below w.heap.size w w' := by
  have HL := Lib.hid h.1
  go_enter Try.func111, Try.ntmps111
  go_wp2
  go_loopw [8] (fun i wr => ∃ k : Nat, k ≤ n ∧ i = .int .i64 k ∧ othW (zs.take k) st = zs.take k ∧ Below w.heap.size w wr) (fun i _ => n - (intOf i).toNat)
  case atStart => exact ⟨0, Nat.zero_le _, rfl, rfl, Below.refl _ _⟩
  case round =>
    obtain ⟨k, hk, rfl, hno, hbl⟩ := hrel
    have hsz := hbl.size
    by_cases hlt : k < n
    · obtain ⟨ad, p, rfl, hab, hp, hq⟩ := h.at hlt
      obtain ⟨c0, c1⟩ := hq.below hbl (by omega)
      have hcw := (hbl.cell (p := ⟨g, 0, none⟩) hg).trans hc
      have hv : p.val = .agg #[.int .i64 p.path, .int .i64 p.wait] := rfl
      have hcc := impl_LngWant1 g A2 n2 c2 B2 st p wr hcw (by omega) (h2.laid hB2 hbl) (by omega) hn2
      rw [hv] at hcc
      have HCC := Lib.hid hcc
      have HB := Lib.hid hbl
      have HNO := Lib.hid hno
      have HP := Lib.hid hp
      clear hno hq hbl hv hp hcw hcc
      go_wp2_with fail
      refine HCC.out.mono ?_
      rintro e w1 ⟨rfl, hb⟩
      have HB1 := Lib.hid (HB.out.trans (hb.mono HB.out.size))
      clear hb
      cases hh : hasI st p.path
      · have HN := Lib.hid (show othW (zs.take (k + 1)) st = zs.take (k + 1) by rw [othW_no HP.out hh, HNO.out, List.take_add_one, HP.out]; rfl)
        clear hh
        go_wp2
        go_roundw
        case rel => exact ⟨k + 1, by omega, by go_num, HN.out, HB1.out⟩
        case measure => simp [intOf]; omega
      · have HN := Lib.hid ((othW_yes HP.out hh).trans HNO.out)
        clear hh
        go_wp2
        go_ret
        exact ⟨_, rfl, .inr ⟨k, hlt, rfl, HN.out⟩, HB1.out⟩
    · obtain rfl : k = n := by omega
      have HR : Hid (othW zs st = zs) := Lib.hid (by rw [List.take_of_length_le (by have := HL.out; omega)] at hno; exact hno)
      clear hno
      go_wp2
      go_ret
      exact ⟨_, rfl, .inl ⟨rfl, HR.out⟩, hbl⟩
theorem lib_CloneWnt (A : Option Addr) (n c B : Nat) (zs : List Wnt) (w : World) (h : WntsAt w B A n zs) (hB : B ≤ w.heap.size) (hA : A = none → n = 0 ∧ c = 0) (hn : n ≤ 4294967296) :
    Calls Try.prog 75 #[.slice A n c] w fun e w' => ∃ v, e = .returned v ∧ w'.ownsRow w.heap.size 95 2 v n (wntcells zs) ∧ Below w.heap.size w w' := by
  have hl := h.1
  cases A with
  | none =>
    obtain ⟨rfl, rfl⟩ := hA rfl
    obtain rfl : zs = [] := List.eq_nil_of_length_eq_zero hl
    have hnil : ∀ W, (binOp .eql 48 (.slice none 0 0) (.slice none 0 0)).run Try.prog W = .ok (.bool true) W := fun W => eql_slice_nil Try.underlying48 _ _ _ W
    go_enter Try.func75, Try.ntmps75
    go_wp2
    go_ret
    exact ⟨_, rfl, ownr_nil _ _ _ _, Below.refl _ _⟩
  | some ad =>
    have hnil : ∀ W, (binOp .eql 48 (.slice (some ad) n c) (.slice none 0 0)).run Try.prog W = .ok (.bool false) W := fun W => eql_slice_nil Try.underlying48 _ _ _ W
    have hrow0 : (w.alloc (.cells #[] 95)).ownsRow w.heap.size 95 2 (.slice (some ⟨w.heap.size, 0, none⟩) 0 0) 0 [] := ⟨rfl, .inr ⟨w.heap.size, 0, #[], rfl, Nat.le_refl _, heap_alloc_new w _, Nat.le_refl _, by decide, rfl, rfl⟩⟩
    have hb0 : Below w.heap.size w (w.alloc (.cells #[] 95)) := (Below.refl _ _).alloc (Nat.le_refl _) _
    have hsrc := h.2.below (hb0.mono hB)
    have HS0 : Hid ((w.alloc (.cells #[] 95)).heap.size = w.heap.size + 1) := Lib.hid (heap_size_allocF _ _)
    go_enter Try.func75, Try.ntmps75
    go_wp2_with (at_builtin; refine wpList_appR rfl _ _ 48 48 rfl 95 95 _ 2 16 Try.underlying48 Try.underlying48 info_wnt rfl (by decide) (by decide) w.heap.size _ 0 [] rfl hrow0 (some ad) n c B (wntcells zs) rfl hsrc (wntcells_one zs) hA (by omega) (by have := HS0.out; omega) ?_; intro v1 w1 hown1 hgrow1 hat1; clear hat1)
    have HO := Lib.hid hown1
    have HB := Lib.hid (ownr_push hrow0 (Nat.le_refl _) hb0 (by have := HS0.out; omega) hgrow1)
    clear hown1 hgrow1
    go_ret
    exact ⟨v1, rfl, by simpa using HO.out, HB.out⟩
theorem impl_LngWant2 (p q : Wnt) (w : World) : Calls Try.prog 79 #[p.val, q.val] w fun e w' => e = .returned (.int .i64 (cmpI p.wait q.wait)) ∧ Below w.heap.size w w' := by
  obtain ⟨a, b⟩ := p
  obtain ⟨a2, b2⟩ := q
  simp only [Wnt.val]
  have HB := Lib.hid (((Below.refl w.heap.size w).alloc (Nat.le_refl _) (.cells #[.int .i64 a, .int .i64 b] 95)).alloc (by simp) (.cells #[.int .i64 a2, .int .i64 b2] 95))
  go_enter Try.func79, Try.ntmps79
  go_wp2_with (go_at_call 80; refine (impl_cmp _ _ _).mono ?_; rintro e w' ⟨rfl, rfl⟩)
  go_ret
  exact ⟨rfl, HB.out⟩
set_option maxHeartbeats 2000000 in
theorem impl_maxW (A : Option Addr) (n c B : Nat) (zs : List Wnt) (w : World) (h : WntsAt w B A n zs) (hB : B ≤ w.heap.size) (hn : n ≤ 4294967296) (h0 : 0 < n) :
    Calls Try.prog 78 #[.slice A n c, .func (.func 79) #[] #[]] w fun e w' => e = .returned (gtK zs n).val ∧ Below w.heap.size w w' := by
  have hl := h.1
  obtain ⟨ad, p0, rfl, hab, hp0, hq0⟩ := h.at h0
  have HS1 : Hid (gtK zs 1 = p0) := Lib.hid (by rw [gtK_one, wntA_some hp0])
  have hpi : (0 : Int) < (n : Int) := by omega
  have hni : ¬ (n : Int) < 1 := by omega
  obtain ⟨wA, hwA⟩ : ∃ wA, wA = (w.alloc (.cells #[.int .i64 0, .int .i64 0] 95)).alloc (.cells #[.int .i64 p0.path, .int .i64 p0.wait] 95) := ⟨_, rfl⟩
  obtain ⟨hz, hk, hsz, hBl⟩ := two_blocks hwA
  have hb1 := (Below.refl w.heap.size w).alloc (Nat.le_refl _) (.cells #[.int .i64 0, .int .i64 0] 95)
  obtain ⟨e0, e1⟩ := hq0.below hb1 (by omega)
  simp only [Nat.zero_mul] at e0 e1
  have ha0 : ad.add 0 = ad := by simp [Addr.add]
  rw [ha0] at e0 e1
  have HK := Lib.hid hk
  have HZ := Lib.hid hz
  have HBl := Lib.hid hBl
  clear hz hk hsz hBl hb1 hp0 hq0 ha0 hab
  go_enter Try.func78, Try.ntmps78
  go_wp2
  rw [← hwA]
  clear hwA e0 e1
  go_loopw [6] (fun i wr => ∃ (k : Nat) (q : Wnt), 1 ≤ k ∧ k ≤ n ∧ i = .int .i64 k ∧ gtK zs k = q ∧ wr.heap[w.heap.size]? = some (.cells #[.int .i64 0, .int .i64 0] 95) ∧ wr.heap[w.heap.size + 1]? = some (.cells #[.int .i64 q.path, .int .i64 q.wait] 95) ∧ Below w.heap.size w wr) (fun i _ => n - (intOf i).toNat)
  case atStart => exact ⟨1, p0, by omega, by omega, rfl, HS1.out, HZ.out, HK.out, HBl.out⟩
  case round =>
    obtain ⟨k, q, hk1, hk, rfl, hq, hz, hkk, hbl⟩ := hrel
    have HQ := Lib.hid hq
    have HZ2 := Lib.hid hz
    have HK2 := Lib.hid hkk
    have HB2 := Lib.hid hbl
    have ltz : w.heap.size < wr.heap.size := lt_of_block hz
    have ltk : w.heap.size + 1 < wr.heap.size := lt_of_block hkk
    by_cases hlt : k < n
    · obtain ⟨ad2, p, e, hab2, hp, hqp⟩ := h.at hlt
      injection e with e
      subst e
      have hqw := hqp.below hbl (by omega)
      have c0 := fun x : GW wr => (hqw.below x.ok (by omega)).c0
      have c1 := fun x : GW wr => (hqw.below x.ok (by omega)).c1
      have hkx := fun x : GW wr => wnt_head (wnt_of_block (p := q) ((x.ok.block _ ltk).trans HK2.out))
      have d0 := fun x : GW wr => (hkx x).1
      have d1 := fun x : GW wr => (hkx x).2
      have hcc := fun x : GW wr => impl_LngWant2 p q x.val
      have i1 : (0 : Int) ≤ (k : Int) := by omega
      have i2 : (k : Int) < (n : Int) := by omega
      have HP := Lib.hid hp
      simp only [Wnt.val] at hcc
      clear hp hqp hqw hkx hq hz hkk hbl
      by_cases hgt : p.wait > q.wait
      · have hcv : cmpI p.wait q.wait = 1 := by unfold cmpI; rw [if_neg (by omega), if_pos hgt]
        rw [hcv] at hcc
        have HS : Hid (gtK zs (k + 1) = p) := Lib.hid (gtK_yes HP.out (by rw [HQ.out]; exact hgt))
        clear hcv
        go_wp2
        refine wp_region_grow (by kernel_rfl) (by kernel_rfl) ?_
        repeat (go_big_quiet_step (first | (go_at_call 79; exact calls_gw _ (hcc _))))
        refine wpQuiet_nil ?_
        intro x3
        have hb3 := x3.ok
        have b0 := c0 x3
        have b1 := c1 x3
        clear c0 c1 d0 d1 hcc
        generalize x3.val = w3 at *
        have HK3 := Lib.hid ((hb3.block _ ltk).trans HK2.out)
        have HZ3 := Lib.hid ((hb3.block _ ltz).trans HZ2.out)
        have HB3 := Lib.hid (HB2.out.trans (hb3.mono HB2.out.size))
        obtain ⟨f0, f1⟩ := wnt_head (wnt_of_block (p := q) HK3.out)
        have fz : ∀ i, w3.frozen? ⟨w.heap.size + 1, i, none⟩ = false := fun i => frozen_of_row _ _ i _ _ HK3.out
        have ltk3 : w.heap.size + 1 < w3.heap.size := lt_of_block HK3.out
        clear hb3
        go_wp2
        go_roundw
        case rel =>
          refine ⟨k + 1, p, by omega, by omega, by go_num, HS.out, ?_, ?_, (HB3.out.setCell (Nat.le_succ _) _).setCell (Nat.le_succ _) _⟩
          · exact unstored2 HZ3.out (by omega)
          · exact stored2 HK3.out
        case measure => simp [intOf]; omega
      · have hcv : ¬ cmpI p.wait q.wait > 0 := by unfold cmpI; split <;> first | omega | (rw [if_neg hgt]; omega)
        have HS : Hid (gtK zs (k + 1) = q) := Lib.hid ((gtK_no HP.out (by rw [HQ.out]; exact hgt)).trans HQ.out)
        generalize cmpI p.wait q.wait = v at *
        go_wp2
        refine wp_region_grow (by kernel_rfl) (by kernel_rfl) ?_
        repeat (go_big_quiet_step (first | (go_at_call 79; exact calls_gw _ (hcc _))))
        refine wpQuiet_nil ?_
        intro x3
        have hb3 := x3.ok
        clear c0 c1 d0 d1 hcc
        generalize x3.val = w3 at *
        have HK3 := Lib.hid ((hb3.block _ ltk).trans HK2.out)
        have HZ3 := Lib.hid ((hb3.block _ ltz).trans HZ2.out)
        have HB3 := Lib.hid (HB2.out.trans (hb3.mono HB2.out.size))
        clear hb3
        go_wp2
        go_roundw
        case rel => exact ⟨k + 1, q, by omega, by omega, by go_num, HS.out, HZ3.out, HK3.out, HB3.out⟩
        case measure => simp [intOf]; omega
    · obtain rfl : k = n := by omega
      obtain ⟨f0, f1⟩ := wnt_head (wnt_of_block (p := q) HK2.out)
      obtain ⟨z0, z1⟩ := wnt_head (wnt_of_block (p := ⟨0, 0⟩) HZ2.out)
      simp only at z0 z1
      have fz : ∀ i, wr.frozen? ⟨w.heap.size, i, none⟩ = false := fun i => frozen_of_row _ _ i _ _ HZ2.out
      clear hq hz hkk hbl
      go_wp2
      refine bodyPost_ret (by rw [results_cell rfl]; go_simp; try rfl) rfl ?_
      exact ⟨by rw [HQ.out]; rfl, (HB2.out.setCell (Nat.le_refl _) _).setCell (Nat.le_refl _) _⟩
end Go.Proofs.Ytlpkafhapmkkfaa

/- Chapter 15: LongestWant: what is deleted. -/
namespace Go.Proofs.Ytlpkafhapmkkfaa
open Go.RowKit
set_option linter.unusedVariables false

theorem mem_zeroCells {z : Array Value} {n : Nat} (h1 : ∀ u ∈ z.toList, u.oneCell' = true) (hz : 0 < z.size) : ∀ u ∈ (Builtin.zeroCells z n).toList, u.oneCell' = true := by
  intro u hu
  simp only [Builtin.zeroCells, Array.toList_map, List.mem_map] at hu
  obtain ⟨i, _, rfl⟩ := hu
  have hlt : i % z.size < z.size := Nat.mod_lt _ hz
  rw [getElem!_pos z (i % z.size) hlt]
  exact h1 _ (by simp)
/-- 'clear' of a part of a row whose elements are wider than a cell. -/
theorem run_clear_wide {P : Program} (w : World) (t e ty : TypeId) (z : Value) (s : Nat) (ht : P.underlying t = some (.slice e)) (hv : ∀ w, (zeroValue e).run P w = .ok z w) (hz : z.cells.size = s) (h0 : 0 < s) (h1 : ∀ u ∈ z.cells.toList, u.oneCell' = true) (b o n c : Nat) (hn : 0 < n)
    (hc : ∀ j, j < n * s → (w.cell? ⟨b, o + j, none⟩).isSome = true) (hf : ∀ j, j < n * s → w.frozen? ⟨b, o + j, none⟩ = false) :
    ∃ vs : List Value, vs.length = n * s ∧ (Builtin.clear_ #[t] ty #[.slice (some ⟨b, o, none⟩) n c]).run P w = .ok (.tuple #[]) (w.setCells b o vs) := by
  have hlen : (Builtin.zeroCells z.cells n).toList.length = n * s := by simp [Builtin.zeroCells, hz]
  refine ⟨(Builtin.zeroCells z.cells n).toList, hlen, ?_⟩
  have hst := run_storeCells_cells (P := P) b o (Builtin.zeroCells z.cells n).toList 0 w (by rw [hlen]; simpa using hc) (by rw [hlen]; simpa using hf) (mem_zeroCells h1 (by omega))
  simp only [Nat.add_zero] at hst
  obtain ⟨m, rfl⟩ : ∃ m, n = m + 1 := ⟨n - 1, by omega⟩
  simp [Builtin.clear_, run_underlying ht, hv, hst]
theorem ownr_setCells {base g c n : Nat} {E : TypeId} {s q : Nat} : ∀ (vs : List Value) (o : Nat) (w : World) (xs : List Value), w.ownsRow base E s (.slice (some ⟨g, 0, none⟩) n c) n xs → q ≤ o → ∃ ys, (w.setCells g o vs).ownsRow base E s (.slice (some ⟨g, 0, none⟩) n c) n ys ∧ ys.take q = xs.take q
  | [], o, w, xs, h, hq => ⟨xs, h, rfl⟩
  | v :: r, o, w, xs, h, hq => by
    obtain ⟨ys, h1, h2⟩ := ownr_setCells (q := q) r (o + 1) (w.setCell ⟨g, o, none⟩ v) (xs.set o v) (World.ownsRow.stored h o v).1 (by omega)
    exact ⟨ys, h1, by rw [h2, List.take_set_of_le hq]⟩
theorem below_setCellsL {B : Nat} {a : World} {g : Nat} (hg : B ≤ g) : ∀ (vs : List Value) (o : Nat) (w : World), Below B a w → Below B a (w.setCells g o vs)
  | [], _, _, h => h
  | v :: r, o, w, h => below_setCellsL hg r (o + 1) _ (h.setCell hg v)
theorem ownr_cut {w : World} {base g c n k : Nat} {E : TypeId} {s : Nat} {xs : List Value} (h : w.ownsRow base E s (.slice (some ⟨g, 0, none⟩) n c) n xs) (hk : k ≤ n) : w.ownsRow base E s (.slice (some ⟨g, 0, none⟩) k c) k (xs.take (k * s)) := by
  have hks : k * s ≤ n * s := Nat.mul_le_mul_right s hk
  refine ⟨by rw [List.length_take, h.1]; omega, ?_⟩
  rcases h.2 with ⟨e, _⟩ | ⟨g', cap, cur, e, hb, hg, hnc, hcm, hcs, ht⟩
  · simp at e
  · simp only [Value.slice.injEq, Option.some.injEq, Addr.mk.injEq, and_true, true_and] at e
    obtain ⟨rfl, rfl⟩ := e
    refine .inr ⟨g, c, cur, rfl, hb, hg, by omega, hcm, hcs, ?_⟩
    rw [← ht, List.take_take, Nat.min_eq_left hks]
theorem wntcells_takeN (xs : List Wnt) (k : Nat) : (wntcells xs).take (k * 2) = wntcells (xs.take k) := by
  induction xs generalizing k with
  | nil => simp [wntcells]
  | cons x xs ih =>
    cases k with
    | zero => simp [wntcells]
    | succ k =>
      have := ih k
      simp only [wntcells, List.flatMap_cons, List.take_succ_cons] at this ⊢
      rw [show (k + 1) * 2 = k * 2 + 2 by omega]
      simp only [Wnt.cells, List.cons_append, List.nil_append, List.take_succ_cons]
      rw [← this]
theorem wntcells_set (p : Wnt) : ∀ (xs : List Wnt) (i : Nat), i < xs.length → ((wntcells xs).set (i * 2) (.int .i64 p.path)).set (i * 2 + 1) (.int .i64 p.wait) = wntcells (xs.set i p)
  | [], i, h => absurd h (by simp)
  | x :: xs, 0, _ => by simp [wntcells, Wnt.cells]
  | x :: xs, i + 1, h => by
    have ih := wntcells_set p xs i (by simpa using h)
    simp only [wntcells, List.flatMap_cons, List.set_cons_succ] at ih ⊢
    rw [← ih]
    rw [show (i + 1) * 2 = i * 2 + 2 by omega]
    simp only [Wnt.cells, List.cons_append, List.nil_append]
    rfl
theorem drop_setW {xs zs : List Wnt} {i j : Nat} {p : Wnt} (h : xs.drop j = zs.drop j) (hij : i ≤ j) : (xs.set i p).drop (j + 1) = zs.drop (j + 1) := by
  have e : xs.drop (j + 1) = zs.drop (j + 1) := by rw [← List.drop_drop, ← List.drop_drop, h]
  rw [List.drop_set_of_lt (by omega), e]
theorem take_setW {xs fs : List Wnt} {i : Nat} {p : Wnt} (h : xs.take i = fs) (hi : i < xs.length) : (xs.set i p).take (i + 1) = fs ++ [p] := by
  rw [List.take_add_one, List.take_set_of_le (Nat.le_refl _), h]
  simp [hi]
theorem zero_want (w : World) : (zeroValue 95).run Try.prog w = .ok (.agg #[.int .i64 0, .int .i64 0]) w := by kernel_rfl
set_option maxHeartbeats 4000000 in
set_option maxRecDepth 100000 in
theorem del_LngWant (g0 : Nat) (A2 : Option Addr) (n2 c2 B2 : Nat) (st : List Int) (base n : Nat) (v : Value) (zs : List Wnt) (w : World) (hc : w.cell? ⟨g0, 0, none⟩ = some (.slice A2 n2 c2)) (hg : g0 < base) (h2 : IntsAt .i64 w B2 A2 n2 st) (hB2 : B2 ≤ base) (hn2 : n2 ≤ 4294967296)
    (hown : w.ownsRow base 95 2 v n (wntcells zs)) (hbase : base ≤ w.heap.size) (hn : n ≤ 4294967296) :
    Calls Try.prog 74 #[v, .func (.func 76) #[] #[.pointer (some ⟨g0, 0, none⟩)]] w fun e w' => ∃ v', e = .returned v' ∧ w'.ownsRow base 95 2 v' (othW zs st).length (wntcells (othW zs st)) ∧ Below base w w' := by
  have hlen : zs.length = n := by have := hown.1; rw [wntcells_length] at this; omega
  obtain ⟨A, c, rfl⟩ := ownr_sliced hown
  have HIX := Lib.hid (idx_LngWant g0 A2 n2 c2 B2 st A n c w.heap.size zs w hc (by omega) h2 (by omega) hn2 ⟨hlen, ownr_cells hown⟩ (Nat.le_refl _) hn)
  have HO := Lib.hid hown
  have HL := Lib.hid hlen
  clear hown hlen
  go_enter Try.func74, Try.ntmps74
  go_wp2_with fail
  refine HIX.out.mono ?_
  rintro e w1 ⟨r, rfl, hr, hb1⟩
  have HO1 := Lib.hid (ownr_below HO.out hb1)
  have HB1 := Lib.hid (hb1.mono hbase)
  clear hb1
  rcases hr with ⟨rfl, hz⟩ | ⟨k, hk, rfl, hz⟩
  · have HZ := Lib.hid hz
    clear hz
    go_wp2
    go_ret
    exact ⟨_, rfl, by rw [HZ.out, HL.out]; exact HO1.out, HB1.out⟩
  · have hshape := ownr_shape HO1.out
    have HZ := Lib.hid hz
    clear hz
    rcases hshape with ⟨e, hn0⟩ | ⟨g, cap, e, hgb, hgs, hnc, hcm⟩
    · omega
    · injection e with e1 e2 e3
      subst e1
      subst e3
      have nk : ((k : Int) == -1) = false := by rw [beq_eq_false_iff_ne]; omega
      have mx : (maxLen : Nat) = 9223372036854775807 := rfl
      have HC := Lib.hid hc
      have H2 := Lib.hid h2
      clear hc h2 HIX
      go_wp2
      go_loopw [5, 6] (fun a b wr => ∃ (m j : Nat) (xs : List Wnt), k < j ∧ j ≤ n ∧ a = .int .i64 m ∧ b = .int .i64 j ∧ m < j ∧ (othW (zs.take j) st).length = m ∧ xs.length = n ∧ xs.take m = othW (zs.take j) st ∧ xs.drop j = zs.drop j ∧ wr.ownsRow base 95 2 (.slice (some ⟨g, 0, none⟩) n c) n (wntcells xs) ∧ Below base w wr) (fun _ b _ => n - (intOf b).toNat)
      case atStart =>
        have e1 : (zs.take k).length = k := by rw [List.length_take, HL.out]; omega
        exact ⟨k, k + 1, zs, by omega, by omega, rfl, by go_num, by omega, by rw [HZ.out, e1], HL.out, by rw [HZ.out], rfl, HO1.out, HB1.out⟩
      case round =>
        obtain ⟨m, j, xs, hkj, hj, rfl, rfl, hmj, hfl, hxl, hxt, hxd, hown, hbl⟩ := hrel
        have hsz := hbl.size
        have HFL := Lib.hid hfl
        have HXL := Lib.hid hxl
        have HXT := Lib.hid hxt
        have HXD := Lib.hid hxd
        clear hfl hxl hxt hxd HO1 HB1 HZ
        by_cases hlt : j < n
        · obtain ⟨ad, p, ea, hab, hp, hq⟩ := (show WntsAt wr wr.heap.size (some ⟨g, 0, none⟩) n xs from ⟨HXL.out, ownr_cells hown⟩).at hlt
          injection ea with ea
          subst ea
          obtain ⟨c0, c1⟩ := hq
          simp only [add_head] at c0 c1
          have hpz : zs[j]? = some p := by
            have e1 : xs[j]? = (xs.drop j)[0]? := by rw [List.getElem?_drop]; rfl
            have e2 : zs[j]? = (zs.drop j)[0]? := by rw [List.getElem?_drop]; rfl
            rw [e2, ← HXD.out, ← e1, hp]
          have HPZ := Lib.hid hpz
          have hv : p.val = .agg #[.int .i64 p.path, .int .i64 p.wait] := rfl
          have hcc := fun x (hx : Below wr.heap.size wr x) => impl_LngWant1 g0 A2 n2 c2 B2 st p x ((hx.cell (p := ⟨g0, 0, none⟩) (by simp only; omega)).trans ((hbl.cell (p := ⟨g0, 0, none⟩) hg).trans HC.out)) (by have := hx.size; omega) (H2.out.keep fun _ hp => ((hbl.mono hB2).trans (hx.mono (by omega))).cell hp) (by have := hx.size; omega) hn2
          simp only [hv] at hcc
          have HCC := Lib.hid hcc
          have HB := Lib.hid hbl
          have HO := Lib.hid hown
          have j1 : (0 : Int) ≤ (j : Int) := by omega
          have j2 : (j : Int) < (n : Int) := by omega
          clear hp hpz hv hcc hbl hown
          obtain ⟨wA, hwA⟩ : ∃ wA, wA = wr.alloc (.cells #[.int .i64 p.path, .int .i64 p.wait] 95) := ⟨_, rfl⟩
          obtain ⟨hkk, hszA, hBl⟩ := one_block hwA
          have HOA := Lib.hid (ownr_below HO.out hBl)
          have HBA := Lib.hid (HB.out.trans (hBl.mono (Nat.le_trans hbase HB.out.size)))
          have HCA := Lib.hid (HCC.out wA hBl)
          have HKA := Lib.hid hkk
          clear hkk hBl HCC
          go_wp2_with fail
          rw [← hwA]
          refine HCA.out.mono ?_
          rintro e w2 ⟨rfl, hb2⟩
          clear hwA c0 c1
          have HO2 := Lib.hid (ownr_below HOA.out hb2)
          have HB2 := Lib.hid (HBA.out.trans (hb2.mono (Nat.le_trans hbase HBA.out.size)))
          have HK2 := Lib.hid ((hb2.block _ (by omega)).trans HKA.out)
          clear hb2
          cases hh : hasI st p.path
          · have HN := Lib.hid (othW_no HPZ.out hh)
            clear hh
            obtain ⟨y0, y1⟩ := wnt_head (wnt_of_block (p := p) HK2.out)
            obtain ⟨x0, hx0⟩ := ownr_some HO2.out (j := m * 2) (by omega)
            obtain ⟨x1, hx1⟩ := ownr_some HO2.out (j := m * 2 + 1) (by omega)
            have f0 := World.ownsRow.frozenAt HO2.out
            have hst := (World.ownsRow.stored (World.ownsRow.stored HO2.out (m * 2) (.int .i64 p.path)).1 (m * 2 + 1) (.int .i64 p.wait)).1
            rw [wntcells_set p xs m (by rw [HXL.out]; omega)] at hst
            have HS := Lib.hid hst
            have m1 : (0 : Int) ≤ (m : Int) := by omega
            have m2 : (m : Int) < (n : Int) := by omega
            clear hst
            go_wp2
            go_roundw
            case rel =>
              refine ⟨m + 1, j + 1, xs.set m p, by omega, by omega, by go_num, by go_num, by omega, by rw [HN.out, List.length_append, HFL.out]; rfl, by rw [List.length_set]; exact HXL.out, ?_, ?_, HS.out, (HB2.out.setCell hgb _).setCell hgb _⟩
              · rw [HN.out]; exact take_setW HXT.out (by rw [HXL.out]; omega)
              · exact drop_setW HXD.out (by omega)
            case measure => simp [intOf]; omega
          · have HN := Lib.hid (othW_yes HPZ.out hh)
            clear hh
            go_wp2
            go_roundw
            case rel =>
              refine ⟨m, j + 1, xs, by omega, by omega, rfl, by go_num, by omega, by rw [HN.out]; exact HFL.out, HXL.out, by rw [HN.out]; exact HXT.out, ?_, HO2.out, HB2.out⟩
              rw [← List.drop_drop, HXD.out, List.drop_drop]
            case measure => simp [intOf]; omega
        · obtain rfl : j = n := by omega
          have m1 : (0 : Int) ≤ (m : Int) := by omega
          have m2 : (m : Int) ≤ (j : Int) := by omega
          obtain ⟨vs, hvl, hrun⟩ := run_clear_wide (P := Try.prog) wr 48 95 0 _ 2 Try.underlying48 zero_want rfl (by decide) (by intro u hu; simp [Value.cells] at hu; rcases hu with rfl | rfl <;> rfl) g (m * 2) (j - m) (c - m) (by omega) (by intro i hi; obtain ⟨x, hx⟩ := ownr_some hown (j := m * 2 + i) (by omega); rw [hx]; rfl) (by intro i hi; exact World.ownsRow.frozenAt hown _)
          obtain ⟨ys, hy1, hy2⟩ := ownr_setCells (q := m * 2) vs (m * 2) wr _ hown (Nat.le_refl _)
          have hy3 := ownr_cut hy1 (k := m) (by omega)
          rw [hy2, wntcells_takeN, HXT.out, List.take_of_length_le (by have := HL.out; omega)] at hy3
          have HFL2 : Hid ((othW zs st).length = m) := Lib.hid (by have := HFL.out; rwa [List.take_of_length_le (by have := HL.out; omega)] at this)
          have HY := Lib.hid hy3
          have HB := Lib.hid (below_setCellsL hgb vs (m * 2) wr hbl)
          clear hy1 hy2 hy3 hvl hown hbl
          go_wp2
          go_ret
          exact ⟨_, rfl, by rw [HFL2.out]; exact HY.out, HB.out⟩
end Go.Proofs.Ytlpkafhapmkkfaa

/- Chapter 15: LongestWant: program and model. -/
namespace Go.Proofs.Ytlpkafhapmkkfaa
open Go.RowKit
set_option linter.unusedVariables false

theorem field_wantL (a b : Int) (W : World) : (Instr.field 95 (.agg #[.int .i64 a, .int .i64 b]) 0).run Try.prog W = .ok (.int .i64 a) W := by kernel_rfl
set_option maxHeartbeats 1000000 in
set_option maxRecDepth 100000 in
theorem impl_LongestWant (A : Option Addr) (n c B : Nat) (zs : List Wnt) (A2 : Option Addr) (n2 c2 B2 : Nat) (st : List Int) (w : World) (h : WntsAt w B A n zs) (hB : B ≤ w.heap.size) (hA : A = none → n = 0 ∧ c = 0) (hn : n ≤ 4294967296) (h2 : IntsAt .i64 w B2 A2 n2 st) (hB2 : B2 ≤ w.heap.size) (hn2 : n2 ≤ 4294967296) :
    Calls Try.prog 31 #[.slice A n c, .slice A2 n2 c2] w fun e w' => e = .returned (.int .i64 (longP zs st)) ∧ Below w.heap.size w w' := by
  obtain ⟨wA, hwA⟩ : ∃ wA, wA = w.alloc (.cells #[.slice A2 n2 c2] 22) := ⟨_, rfl⟩
  obtain ⟨hkk, hsz, hBl⟩ := one_block hwA
  have hcA : wA.cell? ⟨w.heap.size, 0, none⟩ = some (.slice A2 n2 c2) := by rw [cell_of_row wA _ 0 _ _ _ hkk]; rfl
  have HCL := Lib.hid (lib_CloneWnt A n c B zs wA (h.below (hBl.mono hB)) (by omega) hA hn)
  have HL := Lib.hid h.1
  have HC := Lib.hid hcA
  have HBl := Lib.hid hBl
  have H2 := Lib.hid (h2.laid hB2 hBl)
  have hlf : (othW zs st).length ≤ n := Nat.le_trans (List.length_filter_le _ _) (Nat.le_of_eq h.1)
  clear hkk hBl hcA h h2
  go_enter Try.func31, Try.ntmps31
  go_wp2_with fail
  rw [← hwA]
  refine HCL.out.mono ?_
  rintro e w1 ⟨v1, rfl, hown, hb1⟩
  clear hwA
  have HD := Lib.hid (del_LngWant w.heap.size A2 n2 c2 B2 st wA.heap.size n v1 zs w1 ((hb1.cell (p := ⟨w.heap.size, 0, none⟩) (by simp only; omega)).trans HC.out) (by omega) (H2.out.laid (by omega) hb1) (by omega) hn2 hown hb1.size hn)
  have HB1 := Lib.hid (HBl.out.trans (hb1.mono HBl.out.size))
  have hs1 := hb1.size
  clear hown hb1
  go_wp2_with fail
  refine HD.out.mono ?_
  rintro e w2 ⟨v2, rfl, hown, hb2⟩
  obtain ⟨A3, c3, rfl⟩ := ownr_sliced hown
  have HB2 := Lib.hid (HB1.out.trans (hb2.mono HBl.out.size))
  have HO := Lib.hid hown
  clear hown hb2
  generalize hm : (othW zs st).length = m at *
  by_cases h0 : m = 0
  · have HR : Hid (longP zs st = 0) := Lib.hid (by unfold longP; rw [if_pos (by rw [hm]; exact h0)])
    subst h0
    clear hm
    go_wp2
    go_ret
    exact ⟨by rw [HR.out]; rfl, HB2.out⟩
  · have HR : Hid (longP zs st = (gtK (othW zs st) m).path) := Lib.hid (by unfold longP; rw [if_neg (by rw [hm]; exact h0), hm])
    have HM := Lib.hid (impl_maxW A3 m c3 w2.heap.size (othW zs st) w2 ⟨hm, ownr_cells HO.out⟩ (Nat.le_refl _) (by omega) (by omega))
    have n0 : ((m : Int) == 0) = false := by rw [beq_eq_false_iff_ne]; omega
    clear hm HL
    generalize gtK (othW zs st) m = q at *
    obtain ⟨qa, qb⟩ := q
    simp only [Wnt.val] at HM
    go_wp2_with fail
    refine HM.out.mono ?_
    rintro e w3 ⟨rfl, hb3⟩
    have HB3 := Lib.hid (HB2.out.trans (hb3.mono HB2.out.size))
    clear hb3
    have hfl := fun W => field_wantL qa qb W
    go_wp2
    go_ret
    exact ⟨by rw [HR.out]; rfl, HB3.out⟩
theorem wntA_app {f : List Wnt} {x : Wnt} {k : Nat} (h : k < f.length) : wntA (f ++ [x]) k = wntA f k := by unfold wntA; rw [List.getD_eq_getElem?_getD, List.getD_eq_getElem?_getD, List.getElem?_append_left h]
theorem gtK_app {f : List Wnt} {x : Wnt} (h0 : 0 < f.length) : ∀ k, k ≤ f.length → gtK (f ++ [x]) k = gtK f k
  | 0, _ => wntA_app h0
  | k + 1, h => by
    show gtW (gtK (f ++ [x]) k) (wntA (f ++ [x]) k) = gtW (gtK f k) (wntA f k)
    rw [gtK_app h0 k (by omega), wntA_app (by omega)]
theorem gtK_last {f : List Wnt} {x : Wnt} (h0 : 0 < f.length) : gtK (f ++ [x]) (f ++ [x]).length = gtW (gtK f f.length) x := by
  rw [List.length_append]
  show gtW (gtK (f ++ [x]) f.length) (wntA (f ++ [x]) f.length) = _
  rw [gtK_app h0 _ (Nat.le_refl _), wntA_some (x := x) (by simp)]
/-- where the model is after k wants. -/
def LngAt (zs : List Wnt) (st : List Int) (k : Nat) (b : Int) : Prop :=
  (b = -1 ∧ (othW (zs.take k) st).length = 0) ∨ (∃ (j : Nat) (p : Wnt), j < k ∧ b = j ∧ zs[j]? = some p ∧ 0 < (othW (zs.take k) st).length ∧ gtK (othW (zs.take k) st) (othW (zs.take k) st).length = p)
theorem lng_same {zs : List Wnt} {st : List Int} {k : Nat} {b : Int} {p : Wnt} (h : LngAt zs st k b) (hp : zs[k]? = some p) (hh : hasI st p.path = true) : LngAt zs st (k + 1) b := by
  unfold LngAt at *
  rw [othW_yes hp hh]
  rcases h with h | ⟨j, q, h1, h2⟩
  · exact .inl h
  · exact .inr ⟨j, q, by omega, h2⟩
theorem lng_first {zs : List Wnt} {st : List Int} {k : Nat} {p : Wnt} (h : (othW (zs.take k) st).length = 0) (hp : zs[k]? = some p) (hh : hasI st p.path = false) : LngAt zs st (k + 1) k := by
  have e : othW (zs.take k) st = [] := List.eq_nil_of_length_eq_zero h
  refine .inr ⟨k, p, by omega, rfl, hp, ?_⟩
  rw [othW_no hp hh, e]
  exact ⟨Nat.zero_lt_succ _, gtK_one _⟩
theorem lng_more {zs : List Wnt} {st : List Int} {k j : Nat} {p q : Wnt} (h : 0 < (othW (zs.take k) st).length) (hq : gtK (othW (zs.take k) st) (othW (zs.take k) st).length = q) (hp : zs[k]? = some p) (hh : hasI st p.path = false) (hg : p.wait > q.wait) : LngAt zs st (k + 1) k := by
  refine .inr ⟨k, p, by omega, rfl, hp, ?_⟩
  rw [othW_no hp hh]
  refine ⟨by rw [List.length_append]; exact Nat.succ_pos _, ?_⟩
  rw [gtK_last h, hq]
  unfold gtW
  rw [if_pos hg]
theorem lng_less {zs : List Wnt} {st : List Int} {k j : Nat} {p q : Wnt} (hj : j < k) (hz : zs[j]? = some q) (h : 0 < (othW (zs.take k) st).length) (hq : gtK (othW (zs.take k) st) (othW (zs.take k) st).length = q) (hp : zs[k]? = some p) (hh : hasI st p.path = false) (hg : ¬ p.wait > q.wait) : LngAt zs st (k + 1) j := by
  refine .inr ⟨j, q, by omega, rfl, hz, ?_⟩
  rw [othW_no hp hh]
  refine ⟨by rw [List.length_append]; exact Nat.succ_pos _, ?_⟩
  rw [gtK_last h, hq]
  unfold gtW
  rw [if_neg hg]
theorem lng_end {zs : List Wnt} {st : List Int} {n : Nat} {b : Int} (h : LngAt zs st n b) (hn : zs.length = n) : (b = -1 ∧ longP zs st = 0) ∨ (∃ (j : Nat) (p : Wnt), j < n ∧ b = j ∧ zs[j]? = some p ∧ longP zs st = p.path) := by
  unfold LngAt at h
  rw [List.take_of_length_le (by omega)] at h
  rcases h with ⟨h1, h2⟩ | ⟨j, p, h1, h2, h3, h4, h5⟩
  · exact .inl ⟨h1, by unfold longP; rw [if_pos h2]⟩
  · exact .inr ⟨j, p, h1, h2, h3, by unfold longP; rw [if_neg (by omega), h5]⟩
theorem spec_l6HasL (A : Option Addr) (n c B : Nat) (zs : List Int) (x : Int) (w : World) (h : IntsAt .i64 w B A n zs) (hn : n ≤ 4294967296) :
    Calls Try.prog 72 #[.slice A n c, .int .i64 x] w fun e w' => e = .returned (.bool (hasI zs x)) ∧ Below w.heap.size w w' :=
  (spec_l6Has A n c B zs x w h hn).mono fun e w' ⟨h1, h2⟩ => ⟨h1, h2 ▸ Below.refl _ _⟩
set_option maxHeartbeats 4000000 in
set_option maxRecDepth 100000 in
theorem spec_LongestWant (A : Option Addr) (n c B : Nat) (zs : List Wnt) (A2 : Option Addr) (n2 c2 B2 : Nat) (st : List Int) (w : World) (h : WntsAt w B A n zs) (hB : B ≤ w.heap.size) (hn : n ≤ 4294967296) (h2 : IntsAt .i64 w B2 A2 n2 st) (hB2 : B2 ≤ w.heap.size) (hn2 : n2 ≤ 4294967296) :
    Calls Try.prog 29 #[.slice A n c, .slice A2 n2 c2] w fun e w' => e = .returned (.int .i64 (longP zs st)) ∧ Below w.heap.size w w' := by
  have HL := Lib.hid h.1
  go_enter Try.func29, Try.ntmps29
  go_wp2
  go_loopw [5, 6] (fun b i wr => ∃ (k : Nat) (x : Int), k ≤ n ∧ i = .int .i64 k ∧ b = .int .i64 x ∧ LngAt zs st k x ∧ Below w.heap.size w wr) (fun _ i _ => n - (intOf i).toNat)
  case atStart => exact ⟨0, -1, Nat.zero_le _, rfl, rfl, .inl ⟨rfl, rfl⟩, Below.refl _ _⟩
  case round =>
    obtain ⟨k, x, hk, rfl, rfl, hat, hbl⟩ := hrel
    have hsz := hbl.size
    by_cases hlt : k < n
    · obtain ⟨ad, p, rfl, hab, hp, hq⟩ := h.at hlt
      have hqw := hq.below hbl (by omega)
      have c0 := fun x : GW wr => (hqw.below x.ok (by omega)).c0
      have c1 := fun x : GW wr => (hqw.below x.ok (by omega)).c1
      have hcc := fun x : GW wr => spec_l6HasL A2 n2 c2 B2 st p.path x.val (h2.laid hB2 (hbl.trans (x.ok.mono hsz))) hn2
      have HB := Lib.hid hbl
      have HP := Lib.hid hp
      have HAT := Lib.hid hat
      have i1 : (0 : Int) ≤ (k : Int) := by omega
      have i2 : (k : Int) < (n : Int) := by omega
      have HH := Lib.hid h
      clear hbl hp hq hqw hat
      cases hh : hasI st p.path
      · rw [hh] at hcc
        rcases HAT.out with ⟨rfl, h0⟩ | ⟨j, q, hj, rfl, hz, hl, hg⟩
        · have HN := Lib.hid (lng_first h0 HP.out hh)
          clear hh h0 h
          go_wp2
          refine wp_region_grow (by kernel_rfl) (by kernel_rfl) ?_
          repeat (go_big_quiet_step (first | (go_at_call 72; exact calls_gw _ (hcc _))))
          refine wpQuiet_nil ?_
          intro x5
          have hb5 := HB.out.trans (x5.ok.mono hsz)
          clear c0 c1 hcc
          generalize x5.val = w5 at *
          go_wp2
          go_roundw
          case rel => exact ⟨k + 1, k, by omega, by go_num, rfl, HN.out, hb5⟩
          case measure => simp [intOf]; omega
        · obtain ⟨ad', q', ea, hab', hz', hq'⟩ := HH.out.at (show j < n by omega)
          injection ea with ea
          subst ea
          rw [hz] at hz'
          injection hz' with hz'
          subst hz'
          have d0 := fun x : GW wr => (hq'.below (HB.out.trans (x.ok.mono hsz)) (by omega)).c1
          have j1 : (0 : Int) ≤ (j : Int) := by omega
          have j2 : (j : Int) < (n : Int) := by omega
          have j3 : decide ((j : Int) < 0) = false := decide_eq_false (by omega)
          by_cases hgt : p.wait > q.wait
          · have HN := Lib.hid (lng_more (j := j) hl hg HP.out hh hgt)
            clear hh hl hg hz h hq'
            go_wp2
            refine wp_region_grow (by kernel_rfl) (by kernel_rfl) ?_
            repeat (go_big_quiet_step (first | (go_at_call 72; exact calls_gw _ (hcc _))))
            refine wpQuiet_nil ?_
            intro x5
            have hb5 := HB.out.trans (x5.ok.mono hsz)
            clear c0 c1 hcc d0
            generalize x5.val = w5 at *
            go_wp2
            go_roundw
            case rel => exact ⟨k + 1, k, by omega, by go_num, rfl, HN.out, hb5⟩
            case measure => simp [intOf]; omega
          · have HN := Lib.hid (lng_less hj hz hl hg HP.out hh hgt)
            clear hh hl hg hz h hq'
            go_wp2
            refine wp_region_grow (by kernel_rfl) (by kernel_rfl) ?_
            repeat (go_big_quiet_step (first | (go_at_call 72; exact calls_gw _ (hcc _))))
            refine wpQuiet_nil ?_
            intro x5
            have hb5 := HB.out.trans (x5.ok.mono hsz)
            clear c0 c1 hcc d0
            generalize x5.val = w5 at *
            go_wp2
            go_roundw
            case rel => exact ⟨k + 1, j, by omega, by go_num, rfl, HN.out, hb5⟩
            case measure => simp [intOf]; omega
      · rw [hh] at hcc
        have HN := Lib.hid (lng_same HAT.out HP.out hh)
        clear hh h
        go_wp2
        refine wp_region_grow (by kernel_rfl) (by kernel_rfl) ?_
        repeat (go_big_quiet_step (first | (go_at_call 72; exact calls_gw _ (hcc _))))
        refine wpQuiet_nil ?_
        intro x5
        have hb5 := HB.out.trans (x5.ok.mono hsz)
        clear c0 c1 hcc
        generalize x5.val = w5 at *
        go_wp2
        go_roundw
        case rel => exact ⟨k + 1, x, by omega, by go_num, rfl, HN.out, hb5⟩
        case measure => simp [intOf]; omega
    · obtain rfl : k = n := by omega
      rcases lng_end hat HL.out with ⟨rfl, hr⟩ | ⟨j, q, hj, rfl, hz, hr⟩
      · have HR := Lib.hid hr
        clear hat hr
        go_wp2
        go_ret
        exact ⟨by rw [HR.out]; rfl, hbl⟩
      · have HR := Lib.hid hr
        obtain ⟨ad, q', rfl, hab', hz', hq'⟩ := h.at hj
        rw [hz] at hz'
        injection hz' with hz'
        subst hz'
        obtain ⟨c0, c1⟩ := hq'.below hbl (by omega)
        have HB := Lib.hid hbl
        have j1 : (0 : Int) ≤ (j : Int) := by omega
        have j2 : (j : Int) < (k : Int) := by omega
        have j3 : ¬ (j : Int) < 0 := by omega
        clear hat hr hbl hz h hq'
        go_wp2
        go_ret
        exact ⟨by rw [HR.out]; rfl, HB.out⟩
end Go.Proofs.Ytlpkafhapmkkfaa

/- LongestWant as its exact law meets it. -/
namespace Go.Proofs.Ytlpkafhapmkkfaa
open Go.RowKit
set_option linter.unusedVariables false

theorem sp_LongestWant (A0 : Option Addr) (n0 c0 : Nat) (zs0 : List Wnt) (A1 : Option Addr) (n1 c1 : Nat) (zs1 : List Int) (w : World) (h0 : SlWnt w A0 n0 c0 zs0) (hs0 : n0 ≤ 1048576) (h1 : Sl .i64 w A1 n1 c1 zs1) (hs1 : n1 ≤ 1048576) (r : Int) (hr : longP zs0 zs1 = r) :
    Calls Try.prog 29 #[.slice A0 n0 c0, .slice A1 n1 c1] w fun e w' => e = .returned (.int .i64 r) ∧ Below w.heap.size w w' := by
  subst hr
  exact spec_LongestWant A0 n0 c0 _ zs0 A1 n1 c1 _ zs1 w h0.pths (Nat.le_refl _) h0.small h1.ints (Nat.le_refl _) (by omega)
theorem im_LongestWant (A0 : Option Addr) (n0 c0 : Nat) (zs0 : List Wnt) (A1 : Option Addr) (n1 c1 : Nat) (zs1 : List Int) (w : World) (h0 : SlWnt w A0 n0 c0 zs0) (hs0 : n0 ≤ 1048576) (h1 : Sl .i64 w A1 n1 c1 zs1) (hs1 : n1 ≤ 1048576) (r : Int) (hr : longP zs0 zs1 = r) :
    Calls Try.prog 31 #[.slice A0 n0 c0, .slice A1 n1 c1] w fun e w' => e = .returned (.int .i64 r) ∧ Below w.heap.size w w' := by
  subst hr
  exact impl_LongestWant A0 n0 c0 _ zs0 A1 n1 c1 _ zs1 w h0.pths (Nat.le_refl _) h0.bare h0.small h1.ints (Nat.le_refl _) (by omega)
end Go.Proofs.Ytlpkafhapmkkfaa

/- A cell of a law's argument that is a bool. -/
namespace Go.Proofs.Ytlpkafhapmkkfaa
open Go.ChangeShapes Go.WideShapes Go.ChangeAt Go.RowKit Go.Joins
open Go.Deep (oneCellFields open_slice hone_of)

theorem cell_boolF {H : Type} {enc : TypeId × Value → H} {P : Program} {W : World} {b0 : Nat} {sp : Nat → Bool} {hd : Bool} {n : Nat} {t : TypeId} {v : Value} {y : DataW H × List MemPlace} (ht : P.underlying t = some .bool) (h : DataW.trod enc P W b0 sp hd n t [v] = some y) : ∃ a : Bool, v = .bool a ∧ y.2 = [] := by
  obtain ⟨a, h1, h2⟩ := DataW.trod_bool ht h
  simp at h1
  exact ⟨a, h1, by rw [h2]⟩
end Go.Proofs.Ytlpkafhapmkkfaa

/- A law's arguments that are Want or rows of them (written by gentype.py). -/
namespace Go.Proofs.Ytlpkafhapmkkfaa
open Go.ChangeShapes Go.WideShapes Go.ChangeAt Go.RowKit Go.Joins
open Go.Deep (oneCellFields open_slice hone_of)
set_option linter.unusedVariables false

section
variable {H : Type} {enc : TypeId × Value → H} {P : Program}
theorem arg_wnt {t : TypeId} {f0 f1 : Field} {W : World} {base : Nat} {v : Value} {d : DataW H} {ps : List MemPlace} (hs : P.underlying t = some (.struct #[f0, f1])) (hone : oneCellFields P #[f0, f1] = true) (hC : P.cellsOf t = 2)
    (h0 : P.underlying f0.type = some (.int .i64)) (h1 : P.underlying f1.type = some (.int .i64))
    (hval : Value.okWide P W .any base t v) (hd : DataW.Trod enc P W 0 (fun _ => true) true t v d ps) : ∃ p : Wnt, v = p.val ∧ p.wf := by
  obtain ⟨v0, v1, y0, y1, n, rfl, -, -, t0, t1⟩ := open_agg2 hs hone hC hval hd
  obtain ⟨a, rfl, w0, -⟩ := cell_int h0 t0
  obtain ⟨b, rfl, w1, -⟩ := cell_int h1 t1
  exact ⟨⟨a, b⟩, rfl, w0, w1⟩
theorem arg_wnts {t e : TypeId} {f0 f1 : Field} {W : World} {base : Nat} {v : Value} {d : DataW H} {ps : List MemPlace} (ht : P.underlying t = some (.slice e)) (he : P.underlying e = some (.struct #[f0, f1])) (hone : oneCellFields P #[f0, f1] = true) (hC : P.cellsOf e = 2)
    (h0 : P.underlying f0.type = some (.int .i64)) (h1 : P.underlying f1.type = some (.int .i64))
    (hval : Value.okWide P W .any base t v) (hd : DataW.Trod enc P W 0 (fun _ => true) true t v d ps) (hlt : ∀ x ∈ ps, x.block < W.heap.size) :
    ∃ (A : Option Addr) (n c : Nat) (zs : List Wnt), v = .slice A n c ∧ (WntsAt W W.heap.size A n zs ∧ (∀ z ∈ zs, z.wf) ∧ n ≤ c ∧ c ≤ maxLen) := by
  obtain ⟨a, len, cap, rfl⟩ := okWide_slice ht hval
  obtain ⟨fuel, hf⟩ := hd
  rcases open_slice_fields ht he hone (by rw [hC]; rfl) hf with ⟨h1, _⟩ | ⟨a', len', cap', m, D, Pl, hcs, _, hl, hm, hmm, hx, hi⟩
  · have h1' : [Value.slice a len cap] = [Value.slice none 0 0] := h1
    simp only [List.cons.injEq, and_true] at h1'
    exact ⟨none, 0, 0, [], h1', ⟨rfl, rfl, fun h => absurd h (by omega)⟩, by simp, Nat.le_refl _, Nat.zero_le _⟩
  · have h1' : [Value.slice a len cap] = [Value.slice (some a') len' cap'] := hcs
    simp only [List.cons.injEq, and_true] at h1'
    rw [if_pos rfl] at hmm
    subst hmm
    obtain ⟨zs, hzl, hz⟩ := choose_upto (n := len') (R := fun i (p : Wnt) => p.wf ∧ ∀ (j : Nat) u, p.cells[j]? = some u → W.cell? (a'.add (i * 2 + j)) = some u) (fun i hil => by
      obtain ⟨ys, n, _, _, _, hj⟩ := hi i (by omega)
      obtain ⟨v0, y0, c0, _, t0⟩ := hj 0 f0 rfl
      obtain ⟨v1, y1, c1, _, t1⟩ := hj 1 f1 rfl
      obtain ⟨x0, rfl, w0, -⟩ := cell_int h0 t0
      obtain ⟨x1, rfl, w1, -⟩ := cell_int h1 t1
      refine ⟨⟨x0, x1⟩, ⟨w0, w1⟩, fun j u hu => ?_⟩
      match j, hu with
      | 0, hu => simp [Wnt.cells] at hu; subst hu; exact c0
      | 1, hu => simp [Wnt.cells] at hu; subst hu; exact c1
      | j + 2, hu => simp [Wnt.cells] at hu)
    refine ⟨some a', len', m, zs, h1', ⟨hzl, by rw [wntcells_length, hzl], fun hn => ⟨a', rfl, ?_, fun j u hu => ?_⟩⟩, fun z hzm => ?_, hl, hm⟩
    · have hmem : MemPlace.cell a'.block (a'.off + 0) ∈ ps := by
        have e := congrArg Prod.snd hx
        simp only at e
        rw [e]
        exact List.mem_append_left _ (List.mem_map.2 ⟨0, List.mem_range.2 (by simp; omega), rfl⟩)
      exact hlt _ hmem
    · have hlen : j < zs.length * 2 := by
        have := (List.getElem?_eq_some_iff.1 hu).1
        rwa [wntcells_length] at this
      have hd4 : j / 2 < zs.length := by omega
      have hp : zs[j / 2]? = some zs[j / 2] := List.getElem?_eq_getElem hd4
      have hg := flat_get (s := 2) (f := Wnt.cells) (fun _ => rfl) zs (j / 2) (j % 2) _ hp (by omega)
      have ej : j / 2 * 2 + j % 2 = j := by clear hi hz hx; omega
      rw [ej] at hg
      have := (hz _ _ hp).2 (j % 2) u (hg.symm.trans hu)
      rwa [ej] at this
    · obtain ⟨i, hil, rfl⟩ := List.getElem_of_mem hzm
      exact (hz i _ (List.getElem?_eq_getElem hil)).1
end
end Go.Proofs.Ytlpkafhapmkkfaa
