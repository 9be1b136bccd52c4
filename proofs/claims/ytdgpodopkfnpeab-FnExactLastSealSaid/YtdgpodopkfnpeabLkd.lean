/- Chapter 27: entries linked to the ones before them: lastOf, seal, LastSeal: program and model. -/
import Derived.Test.YtdgpodopkfnpeabInts
import Derived.Test.YtdgpodopkfnpeabEnt
namespace Go.Proofs.Ytdgpodopkfnpeab
open Go.RowKit
set_option linter.unusedVariables false

/-- the pointer to the k-th entry, linked to all before it. -/
def LkAt (w : World) (lo : Nat) (zs : List Ent) : Nat → Value → Prop
  | 0, v => v = .pointer none
  | k + 1, v => ∃ (g : Nat) (v' : Value) (A : Option Addr) (m c : Nat), v = .pointer (some ⟨g, 0, none⟩) ∧ lo ≤ g ∧
      w.heap[g]? = some (.cells #[.int .i64 (entA zs k).second, .slice A m c, .int .i64 (entA zs k).mac, v'] 148) ∧ IntsAt .i64 w w.heap.size A m (entA zs k).lights ∧ LkAt w lo zs k v'
theorem LkAt.below {w w' : World} {lo : Nat} {zs : List Ent} (hb : Below w.heap.size w w') : ∀ {k : Nat} {v : Value}, LkAt w lo zs k v → LkAt w' lo zs k v
  | 0, _, h => h
  | k + 1, _, ⟨g, v', A, m, c, e, hl, hg, hi, h⟩ => ⟨g, v', A, m, c, e, hl, (hb.block _ (lt_of_block hg)).trans hg, (hi.keep fun _ hp => hb.cell hp).up hb.size, LkAt.below hb h⟩
theorem LkAt.ptr {w : World} {lo : Nat} {zs : List Ent} : ∀ {k : Nat} {v : Value}, LkAt w lo zs k v → ∃ o, v = .pointer o
  | 0, _, h => ⟨_, h⟩
  | k + 1, _, ⟨g, v', A, m, c, e, _⟩ => ⟨_, e⟩
/-- the last one's seal. -/
def lastSl (zs : List Ent) : Int := if zs.length = 0 then 0 else (entA zs (zs.length - 1)).mac
theorem cells4 {w : World} {g : Nat} {x0 x1 x2 x3 : Value} {E : TypeId} {fr : Nat × Nat} (h : w.heap[g]? = some (.cells #[x0, x1, x2, x3] E fr)) : w.cell? ⟨g, 0, none⟩ = some x0 ∧ w.cell? ⟨g, 1, none⟩ = some x1 ∧ w.cell? ⟨g, 2, none⟩ = some x2 ∧ w.cell? ⟨g, 3, none⟩ = some x3 :=
  ⟨by rw [cell_of_row w g 0 _ E fr h]; rfl, by rw [cell_of_row w g _ _ E fr h]; rfl, by rw [cell_of_row w g _ _ E fr h]; rfl, by rw [cell_of_row w g _ _ E fr h]; rfl⟩
set_option maxHeartbeats 1000000 in
theorem impl_lastOf (A : Option Addr) (n c B : Nat) (zs : List Ent) (w : World) (h : EntsAt w B A n zs) (hB : B ≤ w.heap.size) (hn : n ≤ 4294967296) :
    Calls Try.prog 94 #[.slice A n c] w fun e w' => ∃ v, e = .returned v ∧ LkAt w' w.heap.size zs n v ∧ Below w.heap.size w w' := by
  have hl := h.1
  go_enter Try.func94, Try.ntmps94
  go_wp2
  go_loopw [3, 8] (fun v i wr => ∃ k : Nat, k ≤ n ∧ i = .int .i64 k ∧ LkAt wr w.heap.size zs k v ∧ Below w.heap.size w wr) (fun _ i _ => n - (intOf i).toNat)
  case atStart => exact ⟨0, Nat.zero_le _, rfl, rfl, Below.refl _ _⟩
  case round =>
    obtain ⟨k, hk, rfl, hv, hbl⟩ := hrel
    by_cases hlt : k < n
    · obtain ⟨ad, A', m, c', rfl, hab, hq, hi, hmc, hnil⟩ := h.at hlt
      obtain ⟨c0, c1, c2⟩ := hq.below hbl (by omega)
      have hiw := hi.keep (w' := wr) (fun p hp => hbl.cell (by omega))
      have hsz := hbl.size
      have i1 : (0 : Int) ≤ (k : Int) := by omega
      have i2 : (k : Int) < (n : Int) := by omega
      obtain ⟨o3, rfl⟩ := hv.ptr
      have HV := Lib.hid hv
      have HI := Lib.hid hiw
      have HB := Lib.hid hbl
      clear hq hi hiw hv hbl
      go_wp2
      go_roundw
      case rel =>
        have hb2 : Below wr.heap.size wr ((wr.alloc (.cells #[.int .i64 (entA zs k).second, .slice A' m c', .int .i64 (entA zs k).mac] 122)).alloc (.cells #[.int .i64 (entA zs k).second, .slice A' m c', .int .i64 (entA zs k).mac, .pointer o3] 148)) := ((Below.refl _ _).alloc (Nat.le_refl _) _).alloc (by simp) _
        refine ⟨k + 1, by omega, by go_num, ⟨wr.heap.size + 1, .pointer o3, A', m, c', rfl, by omega, heap_newF _ _ (heap_size_allocF _ _), (HI.out.keep fun _ hp => hb2.cell (by omega)).up (by simp; omega), HV.out.below hb2⟩, HB.out.trans (hb2.mono hsz)⟩
      case measure => simp [intOf]; omega
    · obtain rfl : k = n := by omega
      have HV := Lib.hid hv
      clear hv
      go_wp2
      go_ret
      exact ⟨_, rfl, HV.out, hbl⟩
theorem impl_seal_nil (w : World) : Calls Try.prog 95 #[.pointer none] w fun e w' => e = .returned (.int .i64 0) ∧ w = w' := by
  go_enter Try.func95, Try.ntmps95
  go_wp2
  go_ret
  exact ⟨rfl, rfl⟩
theorem impl_seal (g : Nat) (x0 x1 v : Value) (s : Int) (w : World) (h : w.heap[g]? = some (.cells #[x0, x1, .int .i64 s, v] 148)) : Calls Try.prog 95 #[.pointer (some ⟨g, 0, none⟩)] w fun e w' => e = .returned (.int .i64 s) ∧ w = w' := by
  obtain ⟨c0, c1, c2, c3⟩ := cells4 h
  clear h
  go_enter Try.func95, Try.ntmps95
  go_wp2
  go_ret
  exact ⟨rfl, rfl⟩
theorem impl_LastSeal (A : Option Addr) (n c B : Nat) (zs : List Ent) (w : World) (h : EntsAt w B A n zs) (hB : B ≤ w.heap.size) (hn : n ≤ 4294967296) :
    Calls Try.prog 52 #[.slice A n c] w fun e w' => e = .returned (.int .i64 (lastSl zs)) ∧ Below w.heap.size w w' := by
  have hl := h.1
  have hcc := impl_lastOf A n c B zs w h hB hn
  go_enter Try.func52, Try.ntmps52
  go_wp2_with fail
  refine hcc.mono ?_
  rintro e w1 ⟨v, rfl, hv, hb1⟩
  clear hcc h
  match n, hl, hv with
  | 0, hl, hv =>
    have hv' : v = .pointer none := hv
    subst hv'
    have HR : Hid (lastSl zs = 0) := Lib.hid (by unfold lastSl; rw [if_pos hl])
    go_wp2_with fail
    refine (impl_seal_nil _).mono ?_
    rintro e w2 ⟨rfl, rfl⟩
    go_wp2
    go_ret
    exact ⟨by rw [HR.out]; try rfl, hb1⟩
  | k + 1, hl, hv =>
    obtain ⟨g, v', A', m, c', rfl, hlo, hg, hi, hv'⟩ := hv
    have HR : Hid (lastSl zs = (entA zs k).mac) := Lib.hid (by unfold lastSl; rw [if_neg (by omega), hl]; rfl)
    clear hi hv'
    go_wp2_with fail
    refine (impl_seal g _ _ _ _ _ hg).mono ?_
    rintro e w2 ⟨rfl, rfl⟩
    go_wp2
    go_ret
    exact ⟨by rw [HR.out]; try rfl, hb1⟩
theorem spec_LastSeal (A : Option Addr) (n c B : Nat) (zs : List Ent) (w : World) (h : EntsAt w B A n zs) (hB : B ≤ w.heap.size) (hn : n ≤ 4294967296) :
    Calls Try.prog 50 #[.slice A n c] w fun e w' => e = .returned (.int .i64 (lastSl zs)) ∧ Below w.heap.size w w' := by
  have hl := h.1
  match n, hl, h, hn with
  | 0, hl, h, hn =>
    have HR : Hid (lastSl zs = 0) := Lib.hid (by unfold lastSl; rw [if_pos hl])
    go_enter Try.func50, Try.ntmps50
    go_wp2
    go_ret
    exact ⟨by rw [HR.out]; try rfl, Below.refl _ _⟩
  | k + 1, hl, h, hn =>
    obtain ⟨ad, A', m, c', rfl, hab, hq, hi, hmc, hnil⟩ := h.at (j := k) (by omega)
    have HR : Hid (lastSl zs = (entA zs k).mac) := Lib.hid (by unfold lastSl; rw [if_neg (by omega), hl]; rfl)
    obtain ⟨c0, c1, c2⟩ := hq
    have b0 : ((((k + 1 : Nat) : Int)) == 0) = false := by simp; omega
    have i1 : (0 : Int) ≤ (k : Int) := by omega
    clear hi h
    go_enter Try.func50, Try.ntmps50
    go_wp2
    go_ret
    exact ⟨by rw [HR.out]; try rfl, Below.refl _ _⟩
end Go.Proofs.Ytdgpodopkfnpeab
