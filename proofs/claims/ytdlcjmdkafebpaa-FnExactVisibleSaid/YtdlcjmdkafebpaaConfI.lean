/- Chapter 5's program: lists of paths, conflicts. -/
import Derived.Test.YtdlcjmdkafebpaaInterI
import Derived.Test.YtdlcjmdkafebpaaConf
import Derived.Test.YtdlcjmdkafebpaaGrow
import Derived.Test.YtdlcjmdkafebpaaPths
import Derived.BigQuiet
import Derived.Deep.QuietTactic
namespace Go.Proofs.Ytdlcjmdkafebpaa
open Go.RowKit
set_option linter.unusedVariables false

/-- the Id of the path before the k-th. -/
def lastI (ps : List Pth) : Nat → Int
  | 0 => 0
  | m + 1 => match ps[m]? with | none => 0 | some q => q.id
theorem lastI_succ {ps : List Pth} {k : Nat} {p : Pth} (h : ps[k]? = some p) : lastI ps (k + 1) = p.id := by simp [lastI, h]
theorem goodAt_last {ps : List Pth} {k : Nat} {p : Pth} (h : ps[k]? = some p) : goodAt ps k = (isP p && decide (lastI ps k < p.id)) := by
  unfold goodAt
  rw [h]
  have hlt := (List.getElem?_eq_some_iff.1 h).1
  cases k with
  | zero =>
    cases hv : isP p
    · simp [hv]
    · have h1 := (isP_facts p hv).1
      have h0 : lastI ps 0 < p.id := by show (0 : Int) < p.id; omega
      rw [decide_eq_true h0]
      simp [hv]
  | succ m =>
    have h2 : ps[m]? = some ps[m] := List.getElem?_eq_getElem (by omega)
    simp [lastI, h2]
theorem goodAt_step {ps : List Pth} {k : Nat} (h : ∀ j, j < k → goodAt ps j = true) (h2 : goodAt ps k = true) : ∀ j, j < k + 1 → goodAt ps j = true := by
  intro j hj
  by_cases e : j = k
  · subst e; exact h2
  · exact h j (by omega)
theorem arePs_big {ps : List Pth} (h : 12 < ps.length) : arePs ps = false := by
  unfold arePs
  rw [decide_eq_false (by omega), Bool.and_false]
theorem PthAt.plain {w : World} {q : Addr} {p : Pth} (h : PthAt w q p) : w.cell? q = some (.int .i64 p.id) ∧ w.cell? ⟨q.block, q.off + 1, none⟩ = some (.int .i64 p.kind) ∧ w.cell? ⟨q.block, q.off + 2, none⟩ = some (.int .i64 p.frm) ∧ w.cell? ⟨q.block, q.off + 3, none⟩ = some (.int .i64 p.to) := ⟨h.c0, h.c1, h.c2, h.c3⟩
set_option maxHeartbeats 1000000 in
set_option maxRecDepth 100000 in
theorem impl_ArePaths (A : Option Addr) (n c B : Nat) (ps : List Pth) (w : World) (h : PthsAt w B A n ps) (hB : B ≤ w.heap.size) (hn : n ≤ 4294967296) :
    Calls Try.prog 88 #[.slice A n c] w fun e w' => e = .returned (.bool (arePs ps)) ∧ Below w.heap.size w w' := by
  have hl := h.1
  by_cases hbig : 12 < n
  · have HR := Lib.hid (arePs_big (ps := ps) (by omega))
    go_enter Try.func88, Try.ntmps88
    go_wp2
    go_ret
    exact ⟨by rw [HR.out]; rfl, Below.refl _ _⟩
  · go_enter Try.func88, Try.ntmps88
    go_wp2
    go_loopw [11, 3] (fun i x wr => ∃ k : Nat, k ≤ n ∧ i = .int .i64 k ∧ x = .int .i64 (lastI ps k) ∧ (∀ j, j < k → goodAt ps j = true) ∧ Below w.heap.size w wr) (fun i _ _ => n - (intOf i).toNat)
    case atStart => exact ⟨0, Nat.zero_le _, rfl, rfl, fun j hj => absurd hj (by omega), Below.refl _ _⟩
    case round =>
      obtain ⟨k, hk, rfl, rfl, hgo, hbl⟩ := hrel
      have hsz := hbl.size
      by_cases hlt : k < n
      · obtain ⟨ad, p, rfl, hab, hp, hq⟩ := h.at hlt
        obtain ⟨c0, c1, c2, c3⟩ := (hq.below hbl (by omega)).plain
        have i1 : (0 : Int) ≤ (k : Int) := by omega
        have i2 : (k : Int) < (n : Int) := by omega
        have HG := Lib.hid (goodAt_last hp)
        have HL := Lib.hid (lastI_succ hp)
        have hv : p.val = .agg #[.int .i64 p.id, .int .i64 p.kind, .int .i64 p.frm, .int .i64 p.to] := rfl
        obtain ⟨y, hy⟩ : ∃ y, lastI ps k = y := ⟨_, rfl⟩
        rw [hy] at HG
        have HB0 := Lib.hid hbl
        have HGO := Lib.hid hgo
        have hcc := fun x => impl_IsPath p x
        rw [hv] at hcc
        rw [hy]
        clear hq hy hbl hgo hv
        go_wp2_with fail
        refine (hcc _).mono ?_
        rintro e w1 ⟨rfl, hb⟩
        have hb1 := hb.cell (p := ⟨wr.heap.size, 0, none⟩) (by simp)
        have hB1 := Lib.hid (HB0.out.trans ((((Below.refl _ _).alloc (Nat.le_refl _) _).trans (hb.mono (by simp))).mono HB0.out.size))
        have d0 : w1.cell? ⟨wr.heap.size, 0, none⟩ = some (.int .i64 p.id) := hb1.trans (by go_simp)
        clear hb hb1 hcc
        cases hvp : isP p
        · have HR := Lib.hid (arePs_no (ps := ps) (k := k) (by omega) (by rw [HG.out, hvp]; rfl))
          clear HG
          go_wp2
          go_ret
          exact ⟨by rw [HR.out]; rfl, hB1.out⟩
        · by_cases hle : p.id ≤ y
          · have HR := Lib.hid (arePs_no (ps := ps) (k := k) (by omega) (by rw [HG.out, decide_eq_false (by omega)]; simp))
            clear HG
            go_wp2
            go_ret
            exact ⟨by rw [HR.out]; rfl, hB1.out⟩
          · have HN := Lib.hid (goodAt_step HGO.out (by rw [HG.out, hvp, decide_eq_true (by omega)]; rfl))
            clear HG
            go_wp2
            go_roundw
            case rel => exact ⟨k + 1, by omega, by go_num, by rw [HL.out], HN.out, hB1.out⟩
            case measure => simp [intOf]; omega
      · obtain rfl : k = n := by omega
        have HR := Lib.hid (arePs_end (ps := ps) (fun j hj => hgo j (by omega)))
        clear hgo
        go_wp2
        go_ret
        exact ⟨by rw [HR.out, hl, decide_eq_true (p := k ≤ 12) (by omega)]; rfl, hbl⟩
end Go.Proofs.Ytdlcjmdkafebpaa
