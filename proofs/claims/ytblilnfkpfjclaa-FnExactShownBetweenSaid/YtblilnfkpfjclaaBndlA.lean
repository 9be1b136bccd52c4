/- Texts of one chain, put together: Kit Ints Own Row Pth Help Path Inter Mem Pths Conf Grow Conf2 Tog Tog2 Stg Stg2 Stg3 SS SSM Flat Ent Crypt RcdB WitB Hash Seal Lkd RcdI. -/
import Derived.WalkKit
import Derived.IntWalk
import Derived.Laws.BytesString
import Derived.Lib.Hide
import Derived.RegionTactic
import Derived.BigQuiet
import Derived.Deep.QuietTactic
import Derived.Test.YtblilnfkpfjclaaRows
import Derived.Maps.AppendAt
import Derived.Laws.AppendOwnNone
import Derived.Laws.OwnMore
import Derived.OwnWalk
import Derived.Deep.AppendLies
import Derived.Deep.RegionHeld3
import Derived.Deep.DrawnRows
import Derived.Deep.Quiet
import Derived.Laws.Rows
import Derived.Lib.AppendZeros
set_option linter.unusedSimpArgs false
/- Lemmas of this repo's own on the model's operations, for any program. -/
namespace Go.Proofs.Ytblilnfkpfjclaa
open Go.RowKit

theorem i64_of_wf {n : Int} (h : (Lit.int .i64 n).wf = true) : -9223372036854775808 ≤ n ∧ n ≤ 9223372036854775807 := by
  have h' : (decide (IntKind.i64.min ≤ n) && decide (n ≤ IntKind.i64.max)) = true := h
  simp only [Bool.and_eq_true, decide_eq_true_eq] at h'
  exact h'
theorem belowN {B : Nat} {a w : World} (h : Below B a w) (n : Nat) : Below B a (w.drewN n) := ⟨h.os, h.tape, h.output, h.size, h.block⟩
theorem ret_i {k : IntKind} {a b : Int} (h : a = b) : Ending.returned (.int k a) = .returned (.int k b) := by rw [h]
theorem ret_ii {k l : IntKind} {a b c d : Int} (h : a = b) (h2 : c = d) : Ending.returned (.tuple #[.int k a, .int l c]) = .returned (.tuple #[.int k b, .int l d]) := by rw [h, h2]
theorem ret_eq {a b : Value} (h : a = b) : Ending.returned a = .returned b := by rw [h]

/-- A slice value that holds these integers, in a block below B. -/
def IntsAt (k : IntKind) (w : World) (B : Nat) (A : Option Addr) (n : Nat) (zs : List Int) : Prop :=
  zs.length = n ∧ (0 < n → ∃ ad, A = some ad ∧ ad.block < B ∧ ∀ j, j < n → w.cell? (ad.add j) = some (.int k (zs.getD j 0)))
def Bytes (w : World) (B : Nat) (A : Option Addr) (n : Nat) (zs : List Int) : Prop := IntsAt .u8 w B A n zs ∧ ∀ z ∈ zs, 0 ≤ z ∧ z ≤ 255

theorem add_block (a : Addr) (n : Nat) : (a.add n).block = a.block := by unfold Addr.add; split <;> rfl
theorem IntsAt.keep {k : IntKind} {w w' : World} {B : Nat} {A : Option Addr} {n : Nat} {zs : List Int} (h : IntsAt k w B A n zs) (hk : ∀ p : Addr, p.block < B → w'.cell? p = w.cell? p) : IntsAt k w' B A n zs :=
  ⟨h.1, fun hn => by
    obtain ⟨ad, e, hb, hc⟩ := h.2 hn
    exact ⟨ad, e, hb, fun j hj => (hk _ (by rw [add_block]; exact hb)).trans (hc j hj)⟩⟩
theorem Bytes.keep {w w' : World} {B : Nat} {A : Option Addr} {n : Nat} {zs : List Int} (h : Bytes w B A n zs) (hk : ∀ p : Addr, p.block < B → w'.cell? p = w.cell? p) : Bytes w' B A n zs := ⟨h.1.keep hk, h.2⟩
theorem Bytes.below {w w' : World} {B : Nat} {A : Option Addr} {n : Nat} {zs : List Int} (h : Bytes w B A n zs) (hb : Below B w w') : Bytes w' B A n zs := h.keep fun _ hp => hb.cell hp

/-- 'string([]byte{c})' of a row of one byte that has just been made. -/
theorem run_string_of_new1 {P : Program} {src dst e : TypeId} (hs : P.underlying src = some (.slice e)) (he : P.underlying e = some (.int .u8)) (hd : P.underlying dst = some .string) (T : TypeId) (c : Int) (w : World) :
    (convert src dst (.slice (some ⟨w.heap.size, 0, none⟩) 1 1)).run P (w.alloc (.cells #[.int .u8 c] T)) = .ok (.string ⟨[UInt8.ofNat c.toNat].toArray⟩) (w.alloc (.cells #[.int .u8 c] T)) := by
  rw [run_convert_bytes_string _ src dst e _ _ _ hs he hd]
  rw [run_bytesToString _ _ 1 1 [c] ?_]
  · rfl
  · exact run_loadCells_list _ _ [Value.int .u8 c] (fun j v hv => by
      match j with
      | 0 => simp at hv; subst hv; go_simp
      | j + 1 => simp at hv)
end Go.Proofs.Ytblilnfkpfjclaa

/- Contracts of the functions of chapter 1 that only compute with integers: program and model, each against one Lean function. -/
namespace Go.Proofs.Ytblilnfkpfjclaa
open Go.RowKit


def minI (a b : Int) : Int := if b < a then b else a
def maxI (a b : Int) : Int := if a < b then b else a

/-- the test 'a ≤ n ≤ b', closed to the walk. -/
def inB (n a b : Int) : Bool := decide (a ≤ n) && decide (n ≤ b)
theorem impl_InRange (n a b : Int) (w : World) : Calls Try.prog 72 #[.int .i64 n, .int .i64 a, .int .i64 b] w fun e w' => e = .returned (.bool (inB n a b)) ∧ w = w' := by
  unfold inB
  by_cases h1 : a ≤ n
  all_goals
    by_cases h2 : n ≤ b
    all_goals
      go_enter Try.func72, Try.ntmps72
      go_wp2
      go_ret
      exact ⟨by simp [h1, h2], rfl⟩
theorem spec_l1In (n a b : Int) (w : World) : Calls Try.prog 66 #[.int .i64 n, .int .i64 a, .int .i64 b] w fun e w' => e = .returned (.bool (inB n a b)) ∧ w = w' := by
  unfold inB
  by_cases h1 : a ≤ n
  all_goals
    by_cases h2 : n ≤ b
    all_goals
      go_enter Try.func66, Try.ntmps66
      go_wp2
      go_ret
      exact ⟨by simp [h1, h2], rfl⟩
theorem spec_Min (a b : Int) (w : World) : Calls Try.prog 67 #[.int .i64 a, .int .i64 b] w fun e w' => e = .returned (.int .i64 (minI a b)) ∧ w = w' := by
  by_cases h : b < a
  all_goals
    go_enter Try.func67, Try.ntmps67
    go_wp2
    go_ret
    exact ⟨ret_i (by first | (unfold minI; split <;> omega) | (unfold maxI; split <;> omega)), rfl⟩
theorem spec_Max (a b : Int) (w : World) : Calls Try.prog 68 #[.int .i64 a, .int .i64 b] w fun e w' => e = .returned (.int .i64 (maxI a b)) ∧ w = w' := by
  by_cases h : a < b
  all_goals
    go_enter Try.func68, Try.ntmps68
    go_wp2
    go_ret
    exact ⟨ret_i (by first | (unfold minI; split <;> omega) | (unfold maxI; split <;> omega)), rfl⟩
/-- what widen leaves. -/
def widenW (p q : Addr) (l g n : Int) (w : World) : World :=
  if g < n then (if n < l then w.setCell p (.int .i64 n) else w).setCell q (.int .i64 n) else if n < l then w.setCell p (.int .i64 n) else w
theorem widenW_lt {p q : Addr} {l g n : Int} {w : World} (h : n < l) (h2 : ¬ g < n) : widenW p q l g n w = w.setCell p (.int .i64 n) := by unfold widenW; rw [if_neg h2, if_pos h]
theorem widenW_gt {p q : Addr} {l g n : Int} {w : World} (h : ¬ n < l) (h2 : g < n) : widenW p q l g n w = w.setCell q (.int .i64 n) := by unfold widenW; rw [if_pos h2, if_neg h]
theorem widenW_eq {p q : Addr} {l g n : Int} {w : World} (h : ¬ n < l) (h2 : ¬ g < n) : widenW p q l g n w = w := by unfold widenW; rw [if_neg h2, if_neg h]
theorem impl_widen (p q : Addr) (l g n : Int) (w : World) (hl : w.cell? p = some (.int .i64 l)) (hg : w.cell? q = some (.int .i64 g)) (hpq : p ≠ q) (fp : w.frozen? p = false) (fq : w.frozen? q = false) :
    Calls Try.prog 155 #[.pointer (some p), .pointer (some q), .int .i64 n] w fun e w' => e = .returned (.tuple #[]) ∧
      w' = widenW p q l g n w := by
  have hg' : (w.setCell p (.int .i64 n)).cell? q = some (.int .i64 g) := by rw [World.cell?_setCell_other _ _ _ _ hpq]; exact hg
  by_cases h1 : n < l
  all_goals
    by_cases h2 : g < n
    all_goals
      go_enter Try.func155, Try.ntmps155
      go_wp2
      go_end0
      exact ⟨rfl, by unfold widenW; (repeat' split) <;> first | rfl | omega⟩
theorem impl_extremes1 (a r : Int) (b o : Nat) (w : World) (hb : b < w.heap.size) (hc : w.cell? ⟨b, o, none⟩ = some (.int .i64 r)) :
    Calls Try.prog 129 #[.int .i64 a, .slice (some ⟨b, o, none⟩) 1 1] w fun e w' =>
      e = .returned (.tuple #[.int .i64 (minI a r), .int .i64 (maxI a r)]) ∧ Below w.heap.size w w' := by
  by_cases h1 : r < a
  all_goals
    by_cases h2 : a < r
    first | omega | skip
    all_goals
      go_enter Try.func129, Try.ntmps129
      go_wp2
      refine wp_loop_rounds 2 ?_
      rw [rounds_succ]
      go_wp2_with fail
      refine (impl_widen _ _ a a r _ (by go_simp) (by go_simp) (by simp) (by go_simp) (by go_simp)).mono ?_
      rintro e w' ⟨rfl, rfl⟩
      first | rw [widenW_lt (by omega) (by omega)] | rw [widenW_gt (by omega) (by omega)] | rw [widenW_eq (by omega) (by omega)]
      go_wp2
      rw [rounds_succ]
      go_wp2
      go_quiet (fail)
      go_wp2
      go_ret2
      exact ⟨ret_ii (by unfold minI; split <;> omega) (by unfold maxI; split <;> omega), belowN (((Below.refl _ _).alloc (Nat.le_refl _) _).alloc (by simp) _) _⟩
theorem impl_Min (a b : Int) (w : World) : Calls Try.prog 125 #[.int .i64 a, .int .i64 b] w fun e w' => e = .returned (.int .i64 (minI a b)) ∧ Below w.heap.size w w' := by
  go_enter Try.func125, Try.ntmps125
  go_wp2_with fail
  refine (impl_extremes1 a b _ _ _ (by simp) (by go_simp)).mono ?_
  rintro e w' ⟨rfl, hb⟩
  go_wp2
  go_ret
  exact ⟨rfl, ((Below.refl _ _).alloc (Nat.le_refl _) _).trans (hb.mono (by simp))⟩
theorem impl_Max (a b : Int) (w : World) : Calls Try.prog 77 #[.int .i64 a, .int .i64 b] w fun e w' => e = .returned (.int .i64 (maxI a b)) ∧ Below w.heap.size w w' := by
  go_enter Try.func77, Try.ntmps77
  go_wp2_with fail
  refine (impl_extremes1 a b _ _ _ (by simp) (by go_simp)).mono ?_
  rintro e w' ⟨rfl, hb⟩
  go_wp2
  go_ret
  exact ⟨rfl, ((Below.refl _ _).alloc (Nat.le_refl _) _).trans (hb.mono (by simp))⟩
def ceilDiv (a b : Int) : Int := if inB a 0 1000000000000 && inB b 1 1000000000000 then (a + b - 1) / b else 0
def modI (a b : Int) : Int := if inB b 1 1000000000000 then a % b else 0
theorem mod_of_tmod (a b : Int) (hb : 1 ≤ b) : (a.tmod b < 0 → a.tmod b + b = a % b) ∧ (0 ≤ a.tmod b → a.tmod b = a % b) ∧ -b < a.tmod b ∧ a.tmod b < b := by
  have h1 := Int.tmod_lt_of_pos a (show 0 < b by omega)
  have h2 := Int.lt_tmod_of_pos a (show 0 < b by omega)
  have h3 : a % b = a.tmod b % b := by
    have h := Int.tmod_add_mul_tdiv a b
    conv => lhs; rw [← h]
    rw [Int.add_mul_emod_self_left]
  refine ⟨fun h => ?_, fun h => ?_, h2, h1⟩
  · rw [h3]
    have h4 : (a.tmod b + b) % b = a.tmod b % b := by simp
    rw [← h4, Int.emod_eq_of_lt (by omega) (by omega)]
  · rw [h3, Int.emod_eq_of_lt h h1]
theorem inB_t {n a b : Int} (h : inB n a b = true) : a ≤ n ∧ n ≤ b := by simpa [inB] using h
theorem inB_f {n a b : Int} (h : inB n a b = false) : n < a ∨ b < n := by simp [inB] at h; omega
theorem spec_Mod (a b : Int) (w : World) : Calls Try.prog 138 #[.int .i64 a, .int .i64 b] w fun e w' => e = .returned (.int .i64 (modI a b)) ∧ w = w' := by
  unfold modI
  cases h1 : inB b 1 1000000000000
  · have H1 := Lib.hid h1
    clear h1
    go_enter Try.func138, Try.ntmps138
    go_wp2_with (go_at_call 66; refine (spec_l1In _ _ _ _).mono ?_; rintro e w' ⟨rfl, rfl⟩; rw [H1.out])
    go_ret
    exact ⟨by simp, rfl⟩
  · obtain ⟨hb1, hb2⟩ := inB_t h1
    have H1 := Lib.hid h1
    clear h1
    go_enter Try.func138, Try.ntmps138
    go_wp2_with (go_at_call 66; refine (spec_l1In _ _ _ _).mono ?_; rintro e w' ⟨rfl, rfl⟩; rw [H1.out])
    go_ret
    refine ⟨ret_i ?_, rfl⟩
    obtain ⟨m1, m2, m3, m4⟩ := mod_of_tmod a b hb1
    rw [IntWalk.wrap64_in _ (by omega), Int.tmod_eq_emod_of_nonneg (by omega)]
    by_cases hn : a.tmod b < 0
    · rw [m1 hn, Int.emod_emod]
    · rw [← m2 (by omega), Int.add_emod_right, Int.emod_eq_of_lt (by omega) m4]
theorem impl_Mod (a b : Int) (w : World) : Calls Try.prog 141 #[.int .i64 a, .int .i64 b] w fun e w' => e = .returned (.int .i64 (modI a b)) ∧ w = w' := by
  unfold modI
  cases h1 : inB b 1 1000000000000
  · have H1 := Lib.hid h1
    clear h1
    go_enter Try.func141, Try.ntmps141
    go_wp2_with (go_at_call 72; refine (impl_InRange _ _ _ _).mono ?_; rintro e w' ⟨rfl, rfl⟩; rw [H1.out])
    go_ret
    exact ⟨by simp, rfl⟩
  · obtain ⟨hb1, hb2⟩ := inB_t h1
    have H1 := Lib.hid h1
    clear h1
    by_cases hn : a.tmod b < 0
    all_goals
      go_enter Try.func141, Try.ntmps141
      go_wp2_with (go_at_call 72; refine (impl_InRange _ _ _ _).mono ?_; rintro e w' ⟨rfl, rfl⟩; rw [H1.out])
      go_ret
      refine ⟨ret_i ?_, rfl⟩
      obtain ⟨m1, m2, m3, m4⟩ := mod_of_tmod a b hb1
      first | (rw [IntWalk.wrap64_in _ (by omega)]; exact m1 (by omega)) | exact m2 (by omega)
end Go.Proofs.Ytblilnfkpfjclaa

/- Slices of numbers that a call has made: what they hold; append, make and stores on them. No program. -/
namespace Go.Proofs.Ytblilnfkpfjclaa
open Go.RowKit

theorem heap_set {w : World} {g : Nat} {cs : Array Value} {t : TypeId} (h : w.heap[g]? = some (.cells cs t (0, 0))) (i : Nat) (u : Value) :
    (w.setCell ⟨g, i, none⟩ u).heap[g]? = some (.cells (cs.setIfInBounds i u) t (0, 0)) := by
  simp [World.setCell, Array.getElem?_modify, h]
/-- Only block g, and what is new, has turned. -/
theorem only_drewN {a w : World} {row : Option Nat} (h : a.grownBy w row) (n : Nat) : a.grownBy (w.drewN n) row := ⟨h.os, h.tape, h.output, h.size, h.block⟩
theorem only_alloc {a w : World} {row : Option Nat} (h : a.grownBy w row) (o : Obj) : a.grownBy (w.alloc o) row :=
  ⟨h.os, h.tape, h.output, Nat.le_trans h.size (by simp), fun k hk hne => (Below.heap_alloc w o k (Nat.lt_of_lt_of_le hk h.size)).trans (h.block k hk hne)⟩
theorem only_trans {a b c : World} {g : Nat} (h : a.grownBy b (some g)) (k : b.grownBy c (some g)) : a.grownBy c (some g) :=
  ⟨k.os.trans h.os, k.tape.trans h.tape, k.output.trans h.output, Nat.le_trans h.size k.size, fun i hi hne => (k.block i (Nat.lt_of_lt_of_le hi h.size) hne).trans (h.block i hi hne)⟩
theorem below_of_only {a w : World} {g B : Nat} (h : a.grownBy w (some g)) (hB : B ≤ g) (hs : B ≤ a.heap.size) : Below B a w :=
  ⟨h.os, h.tape, h.output, h.size, fun k hk => h.block k (by omega) (fun e => by injection e with e; omega)⟩
theorem only_of_below {a w : World} (h : Below a.heap.size a w) (row : Option Nat) : a.grownBy w row := ⟨h.os, h.tape, h.output, h.size, fun i hi _ => h.block i hi⟩
theorem only_setCell {a w : World} {g : Nat} (h : a.grownBy w (some g)) (i : Nat) (u : Value) : a.grownBy (w.setCell ⟨g, i, none⟩ u) (some g) :=
  ⟨h.os, h.tape, h.output, by simpa [World.setCell] using h.size, fun k hk hne => (Below.heap_setCell w _ u k (fun e => hne (by rw [e]))).trans (h.block k hk hne)⟩

/-- v is a slice over a row of the call's own (a block from lo on) that holds these integers; or nil. -/
def Own (k : IntKind) (E : TypeId) (w : World) (lo : Nat) (v : Value) (zs : List Int) : Prop := w.ownsRow lo E 1 v zs.length (zs.map (Value.int k))
theorem own_nil (k : IntKind) (E : TypeId) (w : World) (lo : Nat) : Own k E w lo (.slice none 0 0) [] := World.ownsRow_nil _ _ _ _
theorem Own.shape {k : IntKind} {E : TypeId} {w : World} {lo : Nat} {v : Value} {zs : List Int} (h : Own k E w lo v zs) :
    (v = .slice none 0 0 ∧ zs = []) ∨ ∃ g cap, v = .slice (some ⟨g, 0, none⟩) zs.length cap ∧ lo ≤ g ∧ g < w.heap.size ∧ zs.length ≤ cap ∧ cap ≤ maxLen := by
  rcases h.2 with ⟨h1, h2⟩ | ⟨g, cap, cur, hv, hb, hg, hc, hm, _⟩
  · exact .inl ⟨h1, List.eq_nil_of_length_eq_zero h2⟩
  · exact .inr ⟨g, cap, hv, hb, lt_of_block hg, hc, hm⟩
theorem Own.sliced {k : IntKind} {E : TypeId} {w : World} {lo : Nat} {v : Value} {zs : List Int} (h : Own k E w lo v zs) : ∃ A c, v = .slice A zs.length c := by
  rcases h.shape with ⟨rfl, rfl⟩ | ⟨g, cap, rfl, _⟩
  · exact ⟨_, _, rfl⟩
  · exact ⟨_, _, rfl⟩
theorem Own.len {k : IntKind} {E : TypeId} {w : World} {lo : Nat} {A : Option Addr} {n c : Nat} {zs : List Int} (h : Own k E w lo (.slice A n c) zs) : n = zs.length := by
  obtain ⟨A', c', e⟩ := h.sliced
  injection e
theorem Own.block {k : IntKind} {E : TypeId} {w : World} {lo : Nat} {v : Value} {zs : List Int} (h : Own k E w lo v zs) : ∀ g, v.ownBlock = some g → lo ≤ g ∧ g < w.heap.size := h.lt
theorem Own.mono {k : IntKind} {E : TypeId} {w : World} {lo lo' : Nat} {v : Value} {zs : List Int} (h : Own k E w lo v zs) (hl : lo' ≤ lo) : Own k E w lo' v zs := by
  refine ⟨h.1, ?_⟩
  rcases h.2 with h2 | ⟨g, cap, cur, hv, hb, hg, r⟩
  · exact .inl h2
  · exact .inr ⟨g, cap, cur, hv, by omega, hg, r⟩
theorem Own.grown {k : IntKind} {E : TypeId} {w w' : World} {lo : Nat} {v : Value} {zs : List Int} {row : Option Nat} (h : Own k E w lo v zs) (hg : w.grownBy w' row) (hne : ∀ g, v.ownBlock = some g → row ≠ some g) : Own k E w' lo v zs :=
  World.ownsRow.kept h hg (by
    cases e : v.ownBlock with
    | none => exact .inl rfl
    | some g => exact .inr fun e' => hne g e e'.symm)
theorem Own.under {k : IntKind} {E : TypeId} {w w' : World} {lo B : Nat} {v : Value} {zs : List Int} (h : Own k E w lo v zs) (hb : Below B w w') (hB : ∀ g, v.ownBlock = some g → g < B) : Own k E w' lo v zs := by
  refine ⟨h.1, ?_⟩
  rcases h.2 with h2 | ⟨g, cap, cur, rfl, hl, hg, r⟩
  · exact .inl h2
  · exact .inr ⟨g, cap, cur, rfl, hl, (hb.block g (hB g rfl)).trans hg, r⟩
theorem Own.below {k : IntKind} {E : TypeId} {w w' : World} {lo : Nat} {v : Value} {zs : List Int} (h : Own k E w lo v zs) (hb : Below w.heap.size w w') : Own k E w' lo v zs := h.under hb fun g e => (h.block g e).2
theorem Own.alloc {k : IntKind} {E : TypeId} {w : World} {lo : Nat} {v : Value} {zs : List Int} (h : Own k E w lo v zs) (o : Obj) : Own k E (w.alloc o) lo v zs := World.ownsRow.alloc h o
theorem add_head (g j : Nat) : (⟨g, 0, none⟩ : Addr).add j = ⟨g, j, none⟩ := by unfold Addr.add; split <;> simp_all
theorem Own.cell {k : IntKind} {E : TypeId} {w : World} {lo : Nat} {g n c : Nat} {zs : List Int} (h : Own k E w lo (.slice (some ⟨g, 0, none⟩) n c) zs) (j : Nat) (hj : j < zs.length) : w.cell? ⟨g, j, none⟩ = some (.int k (zs.getD j 0)) := by
  have hn := h.len
  subst hn
  have h' : w.ownsRow lo E 1 (.slice (some ⟨g, 0, none⟩) zs.length c) zs.length (zs.map (Value.int k)) := h
  rw [h'.cellAt j (by omega)]
  simp [List.getD_eq_getElem?_getD, List.getElem?_eq_getElem hj]
theorem Own.free {k : IntKind} {E : TypeId} {w : World} {lo : Nat} {g n c : Nat} {zs : List Int} (h : Own k E w lo (.slice (some ⟨g, 0, none⟩) n c) zs) (j : Nat) : w.frozen? ⟨g, j, none⟩ = false := by
  have hn := h.len
  subst hn
  have h' : w.ownsRow lo E 1 (.slice (some ⟨g, 0, none⟩) zs.length c) zs.length (zs.map (Value.int k)) := h
  exact h'.frozenAt j
theorem Own.ints {k : IntKind} {E : TypeId} {w : World} {lo : Nat} {A : Option Addr} {n c : Nat} {zs : List Int} (h : Own k E w lo (.slice A n c) zs) : IntsAt k w w.heap.size A n zs := by
  have hn := h.len
  refine ⟨hn.symm, fun h0 => ?_⟩
  rcases h.shape with ⟨e, rfl⟩ | ⟨g, cap, e, hb, hlt, _⟩
  · simp at hn; omega
  · injection e with e1 e2 e3
    subst e1
    exact ⟨_, rfl, hlt, fun j hj => by rw [add_head]; exact h.cell j (by omega)⟩
theorem Own.stored {k : IntKind} {E : TypeId} {w : World} {lo : Nat} {g n c : Nat} {zs : List Int} (h : Own k E w lo (.slice (some ⟨g, 0, none⟩) n c) zs) (j : Nat) (x : Int) :
    Own k E (w.setCell ⟨g, j, none⟩ (.int k x)) lo (.slice (some ⟨g, 0, none⟩) n c) (zs.set j x) := by
  have hn := h.len
  subst hn
  have h' : w.ownsRow lo E 1 (.slice (some ⟨g, 0, none⟩) zs.length c) zs.length (zs.map (Value.int k)) := h
  have h2 := (h'.stored j (.int k x)).1
  unfold Own
  rw [List.length_set, List.map_set]
  exact h2
theorem own_lit {k : IntKind} {E : TypeId} (w : World) {lo : Nat} (zs : List Int) (n : Nat) (hb : lo ≤ w.heap.size) (hm : n ≤ maxLen) (hn : zs.length = n) :
    Own k E (w.alloc (.cells (zs.map (Value.int k)).toArray E)) lo (.slice (some ⟨w.heap.size, 0, none⟩) n n) zs := by
  subst hn
  have h := World.ownsRow_lit (base := lo) (e := E) (size := 1) w (zs.map (Value.int k)).toArray zs.length hb hm (by simp)
  unfold Own
  simpa using h
theorem made_ints (k : IntKind) (n : Nat) : (madeCells (Value.int k 0).cells (n * 1)).toList = (List.replicate n 0).map (Value.int k) := by
  simp only [madeCells, Value.cells]
  apply List.ext_getElem?
  intro i
  simp only [Array.toList_map, List.getElem?_map, Nat.mul_one]
  by_cases h : i < n
  · simp [h, Nat.mod_one]
  · simp [h]
theorem getD_set_self (zs : List Int) (j : Nat) (x : Int) (h : j < zs.length) : (zs.set j x).getD j 0 = x := by
  simp [List.getD_eq_getElem?_getD, h]

/-- The second type of an append is looked at for a number alone. -/
theorem run_append_types {P : Program} {t tx e ex : TypeId} (ht : P.underlying t = some (.slice e)) (hx : P.underlying tx = some (.slice ex)) (ty : TypeId) (A : Option Addr) (n c : Nat) (x : Value) (w : World) :
    (Builtin.append_ #[t, tx] ty #[.slice A n c, x]).run P w = (Builtin.append_ #[t, t] ty #[.slice A n c, x]).run P w := by
  simp [Builtin.append_, run_underlying ht, run_underlying hx]
theorem ints_news {k : IntKind} {w : World} {B : Nat} {ad : Addr} {m : Nat} {zs : List Int} (h : IntsAt k w B (some ad) m zs) : ∀ j u, (zs.map (Value.int k))[j]? = some u → w.cell? (ad.add j) = some u := by
  intro j u hu
  obtain ⟨z, hz, rfl⟩ := Option.map_eq_some_iff.1 ((List.getElem?_map).symm.trans hu)
  obtain ⟨hj, hz'⟩ := List.getElem?_eq_some_iff.1 hz
  have hm := h.1
  obtain ⟨ad', e, _, hc⟩ := h.2 (by omega)
  injection e with e
  subst e
  rw [hc j (by omega), List.getD_eq_getElem?_getD, hz]
  rfl
theorem ints_one (k : IntKind) (zs : List Int) : ∀ u ∈ zs.map (Value.int k), u.oneCell' = true := by
  intro u hu
  obtain ⟨z, _, rfl⟩ := List.mem_map.1 hu
  rfl

/-- A guarded operation that is wanted is carried out as one without a guard. -/
theorem wpList_want {P : Program} {w : World} {ops : Array Oper} {rest : List Oper} {o : Oper} {a : Act} {Q : Exit → Act → World → Prop} (hw : Region.wanted o (yielded ops a.tmps) = true)
    (h : wpList P ops Q ({ o with guard := none } :: rest) a w) : wpList P ops Q (o :: rest) a w := by
  unfold wpList at h ⊢
  rw [if_pos hw]
  rw [if_pos (by simp [Region.wanted])] at h
  exact h
/-- 'append(v, x...)', v of the call's own or nil, x a slice of the same numbers, whatever it is. -/
theorem wpList_app {P : Program} {w : World} {ops : Array Oper} {rest : List Oper} {o : Oper} {a : Act} {Q : Exit → Act → World → Prop} (hgd : o.guard = none) (s x : Operand) (t tx : TypeId)
    (ho : o.op = .call { callee := .builtin .append, args := #[s, x], argTypes := #[t, tx] })
    (k : IntKind) (E ex : TypeId) (bytes : Nat) (ht : P.underlying t = some (.slice E)) (htx : P.underlying tx = some (.slice ex)) (hi : (P.info? E).map (fun i => (i.zero, i.size, i.bytes)) = some (some (.int k 0), 1, bytes))
    (lo : Nat) (v : Value) (xs : List Int) (hs : a.eval s = v) (hown : Own k E w lo v xs)
    (A : Option Addr) (m c B : Nat) (zs : List Int) (hx : a.eval x = .slice A m c) (hsrc : IntsAt k w B A m zs) (hnil : A = none → m = 0 ∧ c = 0) (hb : bytes ≤ 8)
    (hbytes : xs.length + m ≤ 4398046511104) (hlo : lo ≤ w.heap.size)
    (h : ∀ v' w', Own k E w' lo v' (xs ++ zs) → w.grownBy w' v.ownBlock → (v'.ownBlock = v.ownBlock ∨ v'.ownBlock = some w.heap.size) → wpList P ops Q rest (a.put o.dst v') w') :
    wpList P ops Q (o :: rest) a w := by
  refine wpList_plain hgd fun K hK => ?_
  obtain ⟨i, hi1, hz, hsz, hby⟩ := info_parts hi
  have hzs := hsrc.1
  obtain ⟨Av, cv, hv⟩ := hown.sliced
  cases A with
  | none =>
    obtain ⟨rfl, rfl⟩ := hnil rfl
    have hz0 : zs = [] := List.eq_nil_of_length_eq_zero hzs
    subst hz0
    have hrun := run_append_owned_none (P := P) (w := w) lo t o.type E i 1 ht hi1 v xs.length _ hown
    have hrun2 := (run_append_types ht htx o.type Av xs.length cv (.slice none 0 0) w).trans (hv ▸ hrun)
    unfold Oper.wp
    simp [execOp, ho, resolve, invoke, builtin, hs, hx, hv, hrun2, Result.andThen]
    exact hK _ _ (hv ▸ h v w (by rw [List.append_nil]; exact hown) (World.grownBy.refl _ _) (.inl rfl))
  | some ad =>
    obtain ⟨v', w', hr, h2, h3, h4, h5⟩ := run_append_own_at (P := P) w lo t o.type E i (.int k 0) 1 bytes ht hi1 hz hsz hby rfl (by omega) v xs.length _ hown ad m c (zs.map (Value.int k)) (by simp [hzs]) (ints_news hsrc) (ints_one k zs)
      (by unfold maxLen; omega) (by have : (xs.length + m) * bytes ≤ (xs.length + m) * 8 := Nat.mul_le_mul_left _ hb; omega) hlo
    have hrun2 := (run_append_types ht htx o.type Av xs.length cv (.slice (some ad) m c) w).trans (hv ▸ hr)
    unfold Oper.wp execOp
    simp only [ho, resolve, invoke, builtin, Sem.run_bind, Sem.run_pure, Result.andThen_ok, List.map_toArray, List.map_cons, List.map_nil, hs, hx, hv, hrun2]
    refine hK _ _ (h v' w' ?_ h3 h5)
    unfold Own
    rw [List.length_append, List.map_append, hzs]
    exact h2
/-- 'append(v, x)', one number: it lies in a block of its own, the newest. -/
theorem wpList_app1 {P : Program} {w : World} {ops : Array Oper} {rest : List Oper} {o : Oper} {a : Act} {Q : Exit → Act → World → Prop} (hgd : o.guard = none) (s x : Operand) (t : TypeId)
    (ho : o.op = .call { callee := .builtin .append, args := #[s, x], argTypes := #[t, t] })
    (k : IntKind) (E : TypeId) (bytes : Nat) (ht : P.underlying t = some (.slice E)) (hi : (P.info? E).map (fun i => (i.zero, i.size, i.bytes)) = some (some (.int k 0), 1, bytes))
    (lo : Nat) (v : Value) (xs : List Int) (hs : a.eval s = v) (hown : Own k E w lo v xs) (hb : bytes ≤ 8) (hbytes : xs.length < 4398046511104)
    (z : Int) (fr : Nat × Nat) (T : TypeId) (H : Nat) (hlo : lo ≤ H) (hx : a.eval x = .slice (some ⟨H, 0, none⟩) 1 1) (hH : (w.alloc (.cells #[.int k z] T fr)).heap.size = H + 1)
    (h : ∀ v' w', Own k E w' lo v' (xs ++ [z]) → (w.alloc (.cells #[.int k z] T fr)).grownBy w' v.ownBlock → (v'.ownBlock = v.ownBlock ∨ v'.ownBlock = some (H + 1)) → wpList P ops Q rest (a.put o.dst v') w') :
    wpList P ops Q (o :: rest) a (w.alloc (.cells #[.int k z] T fr)) := by
  have hH' : w.heap.size = H := by simpa using hH
  subst hH'
  have hc : (w.alloc (.cells #[.int k z] T fr)).cell? ⟨w.heap.size, 0, none⟩ = some (.int k z) := by
    rw [cell_of_row _ _ 0 #[.int k z] T fr (heap_alloc_new w _)]; rfl
  refine wpList_app hgd s x t t ho k E E bytes ht ht hi lo v xs hs (hown.alloc _) (some ⟨w.heap.size, 0, none⟩) 1 1 (w.heap.size + 1) [z] hx ⟨rfl, fun _ => ⟨_, rfl, by simp, fun j hj => ?_⟩⟩ (by simp) hb (by omega) (by simp; omega) (fun v' w' h1 h2 h3 => h v' w' h1 h2 (by simpa using h3))
  obtain rfl : j = 0 := by omega
  rw [add_head]
  exact hc
/-- 'make([]T, n)'. -/
theorem wpList_mk {P : Program} {w : World} {ops : Array Oper} {rest : List Oper} {o : Oper} {a : Act} {Q : Exit → Act → World → Prop}
    (hg : o.guard = none) (l c : Operand) (t : TypeId) (hop : o.op = Op.makeSlice t l c)
    (k : IntKind) (E : TypeId) (bytes : Nat) (ht : P.underlying t = some (.slice E)) (hi : (P.info? E).map (fun i => (i.zero, i.size, i.bytes)) = some (some (.int k 0), 1, bytes)) (hb : bytes ≤ 8)
    (L C : Int) (n : Nat) (hl : a.eval l = .int .i64 L) (hc : a.eval c = .int .i64 C) (hL : L = (n : Int)) (hC : C = (n : Int)) (hn : n ≤ 4398046511104)
    (hK : ∀ w', Own k E w' w.heap.size (.slice (some ⟨w.heap.size, 0, none⟩) n n) (List.replicate n 0) → w.grownBy w' none → wpList P ops Q rest (a.put o.dst (.slice (some ⟨w.heap.size, 0, none⟩) n n)) w') :
    wpList P ops Q (o :: rest) a w := by
  obtain ⟨i, hi1, hz, hsz, hby⟩ := info_parts hi
  refine wpList_make_full w hg l c t hop w.heap.size E i (.int k 0) 1 ht hi1 hz hsz .i64 .i64 L C n hl hc hL hC (by rw [hby]; have : bytes * n ≤ 8 * n := Nat.mul_le_mul_right _ hb; omega) (by unfold maxLen; omega) (Nat.le_refl _) fun w' h1 h2 => hK w' ?_ h2
  unfold Own
  rw [made_ints] at h1
  simpa using h1
/-- 'make([]T, 0, n)'. -/
theorem wpList_mk0 {P : Program} {w : World} {ops : Array Oper} {rest : List Oper} {o : Oper} {a : Act} {Q : Exit → Act → World → Prop}
    (hg : o.guard = none) (l c : Operand) (t : TypeId) (hop : o.op = Op.makeSlice t l c)
    (k : IntKind) (E : TypeId) (bytes : Nat) (ht : P.underlying t = some (.slice E)) (hi : (P.info? E).map (fun i => (i.zero, i.size, i.bytes)) = some (some (.int k 0), 1, bytes)) (hb : bytes ≤ 8)
    (C : Int) (n : Nat) (hl : a.eval l = .int .i64 0) (hc : a.eval c = .int .i64 C) (hC : C = (n : Int)) (hn : n ≤ 4398046511104)
    (hK : ∀ w', Own k E w' w.heap.size (.slice (some ⟨w.heap.size, 0, none⟩) 0 n) [] → w.grownBy w' none → wpList P ops Q rest (a.put o.dst (.slice (some ⟨w.heap.size, 0, none⟩) 0 n)) w') :
    wpList P ops Q (o :: rest) a w := by
  obtain ⟨i, hi1, hz, hsz, hby⟩ := info_parts hi
  exact wpList_make_own w hg l c t hop w.heap.size E i (.int k 0) 1 ht hi1 hz hsz .i64 .i64 C n hl hc hC (by rw [hby]; have : bytes * n ≤ 8 * n := Nat.mul_le_mul_right _ hb; omega) (by unfold maxLen; omega) (Nat.le_refl _) fun w' h1 h2 => hK w' h1 h2
theorem Own.push {k : IntKind} {E : TypeId} {a w0 w w' : World} {B lo : Nat} {v : Value} {zs : List Int} (h : Own k E w0 lo v zs) (hl : B ≤ lo) (hb : Below B a w) (hB : B ≤ w.heap.size) (hg : w.grownBy w' v.ownBlock) : Below B a w' :=
  hb.grown hg hB fun g e => Nat.le_trans hl (h.block g e).1
theorem own_bare (k : IntKind) (E : TypeId) (w : World) : Own k E (w.alloc (.cells #[] E)) w.heap.size (.slice (some ⟨w.heap.size, 0, none⟩) 0 0) [] := own_lit w [] 0 (Nat.le_refl _) (by decide) rfl
theorem eql_slice_nil {P : Program} {t e : TypeId} (ht : P.underlying t = some (.slice e)) (A : Option Addr) (n c : Nat) (w : World) :
    (binOp .eql t (.slice A n c) (.slice none 0 0)).run P w = .ok (.bool A.isNone) w := by
  have h : ∀ d : Nat, (Op.equalIn (d + 1) t (.slice A n c) (.slice none 0 0)).run P w = .ok A.isNone w := fun d => by
    cases A <;> simp [Op.equalIn, run_underlying ht]
  simp only [binOp]
  simp [Op.equal, Op.maxDepth, h 9999]
theorem below_undrew {B : Nat} {w w' : World} (h : Below B w.drew w') : Below B w w' := ⟨h.os, h.tape, h.output, h.size, h.block⟩
theorem below_grown {w w' : World} (h : w.grownBy w' none) : Below w.heap.size w w' := ⟨h.os, h.tape, h.output, h.size, fun i hi => h.block i hi (by simp)⟩
end Go.Proofs.Ytblilnfkpfjclaa

/- Rows of cells, of elements of whatever size: what they hold; append, make and stores on a row of the call's own. No program. -/
namespace Go.Proofs.Ytblilnfkpfjclaa
open Go.RowKit

theorem add_add (a : Addr) (m n : Nat) : (a.add m).add n = a.add (m + n) := by
  unfold Addr.add
  by_cases h : m = 0
  · subst h; simp
  · by_cases h2 : n = 0
    · subst h2; simp
    · simp [h, h2, Nat.add_assoc]
/-- These cells, one behind the other, in a block below B. -/
def CellsAt (w : World) (B : Nat) (A : Option Addr) (m : Nat) (vs : List Value) : Prop :=
  vs.length = m ∧ (0 < m → ∃ ad, A = some ad ∧ ad.block < B ∧ ∀ (j : Nat) v, vs[j]? = some v → w.cell? (ad.add j) = some v)
theorem CellsAt.keep {w w' : World} {B : Nat} {A : Option Addr} {m : Nat} {vs : List Value} (h : CellsAt w B A m vs) (hk : ∀ p : Addr, p.block < B → w'.cell? p = w.cell? p) : CellsAt w' B A m vs :=
  ⟨h.1, fun hn => by
    obtain ⟨ad, e, hb, hc⟩ := h.2 hn
    exact ⟨ad, e, hb, fun j v hj => (hk _ (by rw [add_block]; exact hb)).trans (hc j v hj)⟩⟩
theorem CellsAt.below {w w' : World} {B : Nat} {A : Option Addr} {m : Nat} {vs : List Value} (h : CellsAt w B A m vs) (hb : Below B w w') : CellsAt w' B A m vs := h.keep fun _ hp => hb.cell hp
theorem CellsAt.up {w : World} {B B' : Nat} {A : Option Addr} {m : Nat} {vs : List Value} (h : CellsAt w B A m vs) (hB : B ≤ B') : CellsAt w B' A m vs :=
  ⟨h.1, fun hn => by obtain ⟨ad, e, hb, hc⟩ := h.2 hn; exact ⟨ad, e, by omega, hc⟩⟩

section
variable {E : TypeId} {s : Nat} {w w' w0 : World} {lo lo' n : Nat} {v : Value} {vs : List Value}
theorem ownr_nil (E : TypeId) (s : Nat) (w : World) (lo : Nat) : w.ownsRow lo E s (.slice none 0 0) 0 [] := World.ownsRow_nil _ _ _ _
theorem ownr_shape (h : w.ownsRow lo E s v n vs) :
    (v = .slice none 0 0 ∧ n = 0) ∨ ∃ g cap, v = .slice (some ⟨g, 0, none⟩) n cap ∧ lo ≤ g ∧ g < w.heap.size ∧ n ≤ cap ∧ cap ≤ maxLen := by
  rcases h.2 with h1 | ⟨g, cap, cur, hv, hb, hg, hc, hm, _⟩
  · exact .inl h1
  · exact .inr ⟨g, cap, hv, hb, lt_of_block hg, hc, hm⟩
theorem ownr_sliced (h : w.ownsRow lo E s v n vs) : ∃ A c, v = .slice A n c := by
  rcases ownr_shape h with ⟨rfl, rfl⟩ | ⟨g, cap, rfl, _⟩
  · exact ⟨_, _, rfl⟩
  · exact ⟨_, _, rfl⟩
theorem ownr_len {A : Option Addr} {m c : Nat} (h : w.ownsRow lo E s (.slice A m c) n vs) : m = n := by
  obtain ⟨A', c', e⟩ := ownr_sliced h
  injection e
theorem ownr_block (h : w.ownsRow lo E s v n vs) : ∀ g, v.ownBlock = some g → lo ≤ g ∧ g < w.heap.size := World.ownsRow.lt h
theorem ownr_mono (h : w.ownsRow lo E s v n vs) (hl : lo' ≤ lo) : w.ownsRow lo' E s v n vs := by
  refine ⟨h.1, ?_⟩
  rcases h.2 with h2 | ⟨g, cap, cur, hv, hb, hg, r⟩
  · exact .inl h2
  · exact .inr ⟨g, cap, cur, hv, by omega, hg, r⟩
theorem ownr_grown {row : Option Nat} (h : w.ownsRow lo E s v n vs) (hg : w.grownBy w' row) (hne : ∀ g, v.ownBlock = some g → row ≠ some g) : w'.ownsRow lo E s v n vs :=
  World.ownsRow.kept h hg (by
    cases e : v.ownBlock with
    | none => exact .inl rfl
    | some g => exact .inr fun e' => hne g e e'.symm)
theorem ownr_under {B : Nat} (h : w.ownsRow lo E s v n vs) (hb : Below B w w') (hB : ∀ g, v.ownBlock = some g → g < B) : w'.ownsRow lo E s v n vs := by
  refine ⟨h.1, ?_⟩
  rcases h.2 with h2 | ⟨g, cap, cur, rfl, hl, hg, r⟩
  · exact .inl h2
  · exact .inr ⟨g, cap, cur, rfl, hl, (hb.block g (hB g rfl)).trans hg, r⟩
theorem ownr_below (h : w.ownsRow lo E s v n vs) (hb : Below w.heap.size w w') : w'.ownsRow lo E s v n vs := ownr_under h hb fun g e => (ownr_block h g e).2
theorem ownr_push {B : Nat} {a : World} (h : w0.ownsRow lo E s v n vs) (hl : B ≤ lo) (hb : Below B a w) (hB : B ≤ w.heap.size) (hg : w.grownBy w' v.ownBlock) : Below B a w' :=
  hb.grown hg hB fun g e => Nat.le_trans hl (ownr_block h g e).1
theorem ownr_cells {A : Option Addr} {m c : Nat} (h : w.ownsRow lo E s (.slice A m c) n vs) : CellsAt w w.heap.size A (m * s) vs := by
  have hm := ownr_len h
  subst hm
  refine ⟨h.1, fun h0 => ?_⟩
  rcases ownr_shape h with ⟨e, hn⟩ | ⟨g, cap, e, hb, hlt, _⟩
  · subst hn; simp at h0
  · injection e with e1 e2 e3
    subst e1; subst e3
    refine ⟨_, rfl, hlt, fun j u hj => ?_⟩
    rw [add_head, World.ownsRow.cellAt h j (by have := (List.getElem?_eq_some_iff.1 hj).1; rw [h.1] at this; exact this), hj]
theorem ownr_some {g c : Nat} (h : w.ownsRow lo E s (.slice (some ⟨g, 0, none⟩) n c) n vs) {j : Nat} (hj : j < n * s) : ∃ x, w.cell? ⟨g, j, none⟩ = some x := by
  have h1 := World.ownsRow.cellAt h j hj
  rw [List.getElem?_eq_getElem (by rw [h.1]; exact hj)] at h1
  exact ⟨_, h1⟩
theorem ownr_nilcap {A : Option Addr} {m c : Nat} (h : w.ownsRow lo E s (.slice A m c) n vs) : A = none → m = 0 ∧ c = 0 := by
  rintro rfl
  rcases ownr_shape h with ⟨e, _⟩ | ⟨g, cap, e, _⟩
  · injection e with e1 e2 e3; exact ⟨e2, e3⟩
  · injection e with e1; cases e1
theorem ownr_cap {A : Option Addr} {m c : Nat} (h : w.ownsRow lo E s (.slice A m c) n vs) : m ≤ c ∧ c ≤ maxLen := by
  rcases ownr_shape h with ⟨e, _⟩ | ⟨g, cap, e, _, _, h1, h2⟩
  · injection e with e1 e2 e3; subst e3; subst e2; exact ⟨Nat.le_refl _, by decide⟩
  · injection e with e1 e2 e3; subst e3; subst e2; exact ⟨h1, h2⟩
end

section
variable {P : Program} {w : World} {ops : Array Oper} {rest : List Oper} {o : Oper} {a : Act} {Q : Exit → Act → World → Prop}
/-- 'append(v, x...)', v of the call's own or nil, x a slice of the same elements, whatever it is. -/
theorem wpList_appR (hgd : o.guard = none) (s x : Operand) (t tx : TypeId)
    (ho : o.op = .call { callee := .builtin .append, args := #[s, x], argTypes := #[t, tx] })
    (E ex : TypeId) (z0 : Value) (sz bytes : Nat) (ht : P.underlying t = some (.slice E)) (htx : P.underlying tx = some (.slice ex)) (hi : (P.info? E).map (fun i => (i.zero, i.size, i.bytes)) = some (some z0, sz, bytes)) (hz : z0.cells.size = sz) (hsz : 0 < sz) (hb : bytes ≤ 256)
    (lo : Nat) (v : Value) (n : Nat) (xs : List Value) (hs : a.eval s = v) (hown : w.ownsRow lo E sz v n xs)
    (A : Option Addr) (m c B : Nat) (zs : List Value) (hx : a.eval x = .slice A m c) (hsrc : CellsAt w B A (m * sz) zs) (h1 : ∀ u ∈ zs, u.oneCell' = true) (hnil : A = none → m = 0 ∧ c = 0)
    (hbytes : n + m ≤ 274877906944) (hlo : lo ≤ w.heap.size)
    (h : ∀ v' w', w'.ownsRow lo E sz v' (n + m) (xs ++ zs) → w.grownBy w' v.ownBlock → (v'.ownBlock = v.ownBlock ∨ v'.ownBlock = some w.heap.size) → wpList P ops Q rest (a.put o.dst v') w') :
    wpList P ops Q (o :: rest) a w := by
  refine wpList_plain hgd fun K hK => ?_
  obtain ⟨i, hi1, hz1, hsz1, hby⟩ := info_parts hi
  have hzs := hsrc.1
  obtain ⟨Av, cv, hv⟩ := ownr_sliced hown
  cases A with
  | none =>
    obtain ⟨rfl, rfl⟩ := hnil rfl
    have hz0 : zs = [] := List.eq_nil_of_length_eq_zero (by rw [hzs]; simp)
    subst hz0
    have hrun := run_append_owned_none (P := P) (w := w) lo t o.type E i sz ht hi1 v n _ hown
    have hrun2 := (run_append_types ht htx o.type Av n cv (.slice none 0 0) w).trans (hv ▸ hrun)
    unfold Oper.wp
    simp [execOp, ho, resolve, invoke, builtin, hs, hx, hv, hrun2, Result.andThen]
    exact hK _ _ (hv ▸ h v w (by rw [List.append_nil]; exact hown) (World.grownBy.refl _ _) (.inl rfl))
  | some ad =>
    have hnews : ∀ (j : Nat) u, zs[j]? = some u → w.cell? (ad.add j) = some u := by
      intro j u hj
      have hlt := (List.getElem?_eq_some_iff.1 hj).1
      obtain ⟨ad', e, _, hc⟩ := hsrc.2 (by rw [← hzs]; omega)
      injection e with e
      subst e
      exact hc j u hj
    obtain ⟨v', w', hr, h2, h3, h4, h5⟩ := run_append_own_at (P := P) w lo t o.type E i z0 sz bytes ht hi1 hz1 hsz1 hby hz hsz v n _ hown ad m c zs hzs hnews h1
      (by unfold maxLen; omega) (by have : (n + m) * bytes ≤ (n + m) * 256 := Nat.mul_le_mul_left _ hb; omega) hlo
    have hrun2 := (run_append_types ht htx o.type Av n cv (.slice (some ad) m c) w).trans (hv ▸ hr)
    unfold Oper.wp execOp
    simp only [ho, resolve, invoke, builtin, Sem.run_bind, Sem.run_pure, Result.andThen_ok, List.map_toArray, List.map_cons, List.map_nil, hs, hx, hv, hrun2]
    exact hK _ _ (h v' w' h2 h3 h5)
theorem cells_new (w : World) (cs : List Value) (T : TypeId) (fr : Nat × Nat) (m : Nat) (hm : cs.length = m) : CellsAt (w.alloc (.cells cs.toArray T fr)) (w.heap.size + 1) (some ⟨w.heap.size, 0, none⟩) m cs :=
  ⟨hm, fun _ => ⟨_, rfl, by simp, fun j u hj => by rw [add_head, cell_of_row _ _ j cs.toArray T fr (heap_alloc_new w _)]; simpa using hj⟩⟩
/-- 'append(v, x)', one element: it lies in a block of its own, the newest. -/
theorem wpList_appR1 (hgd : o.guard = none) (s x : Operand) (t : TypeId)
    (ho : o.op = .call { callee := .builtin .append, args := #[s, x], argTypes := #[t, t] })
    (E : TypeId) (z0 : Value) (sz bytes : Nat) (ht : P.underlying t = some (.slice E)) (hi : (P.info? E).map (fun i => (i.zero, i.size, i.bytes)) = some (some z0, sz, bytes)) (hz : z0.cells.size = sz) (hsz : 0 < sz) (hb : bytes ≤ 256)
    (lo : Nat) (v : Value) (n : Nat) (xs : List Value) (hs : a.eval s = v) (hown : w.ownsRow lo E sz v n xs) (hbytes : n < 274877906944)
    (cs : List Value) (hcs : cs.length = sz) (h1 : ∀ u ∈ cs, u.oneCell' = true) (fr : Nat × Nat) (T : TypeId) (H : Nat) (hlo : lo ≤ H) (hx : a.eval x = .slice (some ⟨H, 0, none⟩) 1 1) (hH : (w.alloc (.cells cs.toArray T fr)).heap.size = H + 1)
    (h : ∀ v' w', w'.ownsRow lo E sz v' (n + 1) (xs ++ cs) → (w.alloc (.cells cs.toArray T fr)).grownBy w' v.ownBlock → (v'.ownBlock = v.ownBlock ∨ v'.ownBlock = some (H + 1)) → wpList P ops Q rest (a.put o.dst v') w') :
    wpList P ops Q (o :: rest) a (w.alloc (.cells cs.toArray T fr)) := by
  have hH' : w.heap.size = H := by simpa using hH
  subst hH'
  refine wpList_appR hgd s x t t ho E E z0 sz bytes ht ht hi hz hsz hb lo v n xs hs (World.ownsRow.alloc hown _) (some ⟨w.heap.size, 0, none⟩) 1 1 (w.heap.size + 1) cs hx (cells_new w cs T fr _ (by omega)) h1 (by simp) (by omega) (by simp; omega) (fun v' w' h1 h2 h3 => h v' w' h1 h2 (by simpa using h3))
/-- 'make([]T, n)'. -/
theorem wpList_mkR (hg : o.guard = none) (l c : Operand) (t : TypeId) (hop : o.op = Op.makeSlice t l c)
    (E : TypeId) (z0 : Value) (sz bytes : Nat) (ht : P.underlying t = some (.slice E)) (hi : (P.info? E).map (fun i => (i.zero, i.size, i.bytes)) = some (some z0, sz, bytes)) (hb : bytes ≤ 256)
    (L C : Int) (n : Nat) (hl : a.eval l = .int .i64 L) (hc : a.eval c = .int .i64 C) (hL : L = (n : Int)) (hC : C = (n : Int)) (hn : n ≤ 274877906944)
    (hK : ∀ w', w'.ownsRow w.heap.size E sz (.slice (some ⟨w.heap.size, 0, none⟩) n n) n (madeCells z0.cells (n * sz)).toList → w.grownBy w' none → wpList P ops Q rest (a.put o.dst (.slice (some ⟨w.heap.size, 0, none⟩) n n)) w') :
    wpList P ops Q (o :: rest) a w := by
  obtain ⟨i, hi1, hz, hsz, hby⟩ := info_parts hi
  exact wpList_make_full w hg l c t hop w.heap.size E i z0 sz ht hi1 hz hsz .i64 .i64 L C n hl hc hL hC (by rw [hby]; have : bytes * n ≤ 256 * n := Nat.mul_le_mul_right _ hb; omega) (by unfold maxLen; omega) (Nat.le_refl _) fun w' h1 h2 => hK w' h1 h2
/-- 'append(v, x)', one element, at a step of a region that draws its order. -/
theorem step_appR1 {K : Act → World → Prop} {F : Prop} (hgd : o.guard = none) (s x : Operand) (t : TypeId)
    (ho : o.op = .call { callee := .builtin .append, args := #[s, x], argTypes := #[t, t] })
    (E : TypeId) (z0 : Value) (sz bytes : Nat) (ht : P.underlying t = some (.slice E)) (hi : (P.info? E).map (fun i => (i.zero, i.size, i.bytes)) = some (some z0, sz, bytes)) (hz : z0.cells.size = sz) (hsz : 0 < sz) (hb : bytes ≤ 256)
    (lo : Nat) (v : Value) (n : Nat) (xs : List Value) (hs : a.eval s = v) (hown : w.ownsRow lo E sz v n xs) (hbytes : n < 274877906944)
    (cs : List Value) (hcs : cs.length = sz) (h1 : ∀ u ∈ cs, u.oneCell' = true) (H : Nat) (hlo : lo ≤ w.heap.size) (hx : a.eval x = .slice (some ⟨H, 0, none⟩) 1 1) (hc : ∀ (j : Nat) u, cs[j]? = some u → w.cell? ⟨H, j, none⟩ = some u)
    (h : ∀ v' w', w'.ownsRow lo E sz v' (n + 1) (xs ++ cs) → w.grownBy w' v.ownBlock → K (a.put o.dst v') w') :
    if Region.wanted o (yielded ops a.tmps) = true then Oper.wp P o a w K Q else F := by
  obtain ⟨i, hi1, hz1, hsz1, hby⟩ := info_parts hi
  refine step_append_lies w hgd s x t ho lo E i z0 sz bytes ht hi1 hz1 hsz1 hby hz hsz v n _ hs hown ⟨H, 0, none⟩ 1 1 cs hx (by omega) (fun j u hu => by rw [add_head]; exact hc j u hu) h1 (by omega) (by unfold maxLen; omega)
    (by have : (n + 1) * bytes ≤ (n + 1) * 256 := Nat.mul_le_mul_left _ hb; omega) hlo _ rfl ?_
  intro g cap w' h1 h2 _ _
  exact h _ w' h1 h2
end

theorem results_cell {fn : Func} {p : Tmp} {ty : TypeId} (h : fn.results = #[.cell p ty]) (tmps : Array Value) (P : Program) (w : World) :
    (results fn tmps).run P w = ((asAddr (tmps.getD p undef)).run P w).andThen fun a w₁ => (loadVar ty a).run P w₁ := by
  simp only [results, h]
  simp [Sem.run_bind, Result.andThen]
theorem set_at {pre rest : List Value} {z a : Value} {m : Nat} (h : pre.length = m) : (pre ++ z :: rest).set m a = pre ++ a :: rest := by
  subst h
  rw [List.set_append_right _ _ (Nat.le_refl _), Nat.sub_self, List.set_cons_zero]
theorem set4 {pre rest : List Value} {z0 z1 z2 z3 a b c d : Value} {m : Nat} (h : pre.length = m) : ((((pre ++ z0 :: z1 :: z2 :: z3 :: rest).set m a).set (m + 1) b).set (m + 2) c).set (m + 3) d = pre ++ a :: b :: c :: d :: rest := by
  rw [set_at h]
  have e1 : pre ++ a :: z1 :: z2 :: z3 :: rest = (pre ++ [a]) ++ z1 :: z2 :: z3 :: rest := by simp
  rw [e1, set_at (by simp [h])]
  have e2 : (pre ++ [a]) ++ b :: z2 :: z3 :: rest = (pre ++ [a, b]) ++ z2 :: z3 :: rest := by simp
  rw [e2, set_at (by simp [h])]
  have e3 : (pre ++ [a, b]) ++ c :: z3 :: rest = (pre ++ [a, b, c]) ++ z3 :: rest := by simp
  rw [e3, set_at (by simp [h])]
  simp
theorem drop4 {zs : List Value} {m : Nat} (h : m + 4 ≤ zs.length) : ∃ z0 z1 z2 z3, zs.drop m = z0 :: z1 :: z2 :: z3 :: zs.drop (m + 4) :=
  ⟨zs[m], zs[m + 1], zs[m + 2], zs[m + 3], by
    rw [List.drop_eq_getElem_cons (by omega), List.drop_eq_getElem_cons (by omega), List.drop_eq_getElem_cons (by omega), List.drop_eq_getElem_cons (by omega)]⟩
/-! Rows of a list's elements, each of so many cells. -/
section
variable {α : Type} {f : α → List Value} {s : Nat}
theorem flat_length (hf : ∀ x, (f x).length = s) (l : List α) : (l.flatMap f).length = l.length * s := by
  induction l with
  | nil => simp
  | cons x l ih => rw [List.flatMap_cons, List.length_append, hf, ih, List.length_cons, Nat.add_mul]; omega
theorem flat_get (hf : ∀ x, (f x).length = s) : ∀ (l : List α) (j i : Nat) (x : α), l[j]? = some x → i < s → (l.flatMap f)[j * s + i]? = (f x)[i]?
  | [], j, i, x, h, _ => by simp at h
  | y :: l, 0, i, x, h, hi => by
    simp at h
    subst h
    rw [List.flatMap_cons, List.getElem?_append_left (by rw [hf]; omega)]
    simp
  | y :: l, j + 1, i, x, h, hi => by
    rw [List.flatMap_cons, List.getElem?_append_right (by rw [hf, Nat.add_mul]; omega), hf]
    have e : (j + 1) * s + i - s = j * s + i := by rw [Nat.add_mul]; omega
    rw [e]
    exact flat_get hf l j i x (by simpa using h) hi
end
end Go.Proofs.Ytblilnfkpfjclaa

/- Paths as Lean data: what chapter 4's functions answer. No program. -/
namespace Go.Proofs.Ytblilnfkpfjclaa
open Go.RowKit

/-- a path. -/
structure Pth where
  id : Int
  kind : Int
  frm : Int
  to : Int
deriving DecidableEq
def Pth.cells (p : Pth) : List Value := [.int .i64 p.id, .int .i64 p.kind, .int .i64 p.frm, .int .i64 p.to]
def Pth.val (p : Pth) : Value := .agg #[.int .i64 p.id, .int .i64 p.kind, .int .i64 p.frm, .int .i64 p.to]
theorem Pth.cells_length (p : Pth) : p.cells.length = 4 := rfl
def Pth.wf (p : Pth) : Prop := (Lit.int .i64 p.id).wf = true ∧ (Lit.int .i64 p.kind).wf = true ∧ (Lit.int .i64 p.frm).wf = true ∧ (Lit.int .i64 p.to).wf = true
/-- what IsPath answers. -/
def isP (p : Pth) : Bool := inB p.id 1 20 && inB p.kind 1 3 && inB p.frm 0 3 && inB p.to 0 3 && (decide (p.frm = p.to) == decide (p.kind = 2))
def inPl (a : Int) : Int := if inB a 0 3 then 2 * a else -1
def outPl (a : Int) : Int := if inB a 0 3 then 2 * a + 1 else -1
/-- the four turns. -/
def turnN (n : Int) : ByteArray := if n = 0 then ⟨#[119, 97, 108, 107]⟩ else if n = 1 then ⟨#[110, 101, 120, 116]⟩ else if n = 2 then ⟨#[111, 118, 101, 114]⟩ else ⟨#[108, 97, 115, 116]⟩
/-- what TurnOf answers. -/
def turnS (p : Pth) : ByteArray := if isP p then turnN (modI (p.to - p.frm) 4) else ⟨#[]⟩
theorem isP_facts (p : Pth) : isP p = true → (1 ≤ p.id ∧ p.id ≤ 20) ∧ (1 ≤ p.kind ∧ p.kind ≤ 3) ∧ (0 ≤ p.frm ∧ p.frm ≤ 3) ∧ (0 ≤ p.to ∧ p.to ≤ 3) ∧ (p.frm = p.to ↔ p.kind = 2) := by
  intro h
  simp only [isP, inB, Bool.and_eq_true, decide_eq_true_eq, beq_iff_eq, decide_eq_decide] at h
  obtain ⟨⟨⟨⟨h1, h2⟩, h3⟩, h4⟩, h5⟩ := h
  exact ⟨h1, h2, h3, h4, h5⟩
/-- x is met when one goes from a upwards, before b. -/
def betw (a x b : Int) : Bool := decide ((x - a) % 8 < (b - a) % 8)
/-- what Interleave answers. -/
def inter (a b c d : Int) : Bool :=
  decide (a ≠ b ∧ a ≠ c ∧ a ≠ d ∧ b ≠ c ∧ b ≠ d ∧ c ≠ d) && inB a 0 7 && inB b 0 7 && inB c 0 7 && inB d 0 7 && (betw a c b != betw a d b)
/-- how many of c and d are met before the p-th place behind a. -/
def met (a c d : Int) (p : Nat) : Nat := (if (c - a) % 8 < p then 1 else 0) + (if (d - a) % 8 < p then 1 else 0)
/-- the first i of these numbers are different and in range. -/
def okNs (l : List Int) (i : Nat) : Prop := ∀ j, j < i → inB (l.getD j 0) 0 7 = true ∧ ∀ k, k < j → l.getD j 0 ≠ l.getD k 0
theorem okNs_step {l : List Int} {i : Nat} (h : okNs l i) (h1 : inB (l.getD i 0) 0 7 = true) (h2 : ∀ k, k < i → l.getD i 0 ≠ l.getD k 0) : okNs l (i + 1) := by
  intro j hj
  by_cases e : j = i
  · subst e; exact ⟨h1, h2⟩
  · exact h j (by omega)
theorem okNs_four {a b c d : Int} (h : okNs [a, b, c, d] 4) : (inB a 0 7 = true ∧ inB b 0 7 = true ∧ inB c 0 7 = true ∧ inB d 0 7 = true) ∧ a ≠ b ∧ a ≠ c ∧ a ≠ d ∧ b ≠ c ∧ b ≠ d ∧ c ≠ d := by
  have h0 := h 0 (by decide)
  have h1 := h 1 (by decide)
  have h2 := h 2 (by decide)
  have h3 := h 3 (by decide)
  have e1 := h1.2 0 (by decide)
  have e2 := h2.2 0 (by decide)
  have e3 := h2.2 1 (by decide)
  have e4 := h3.2 0 (by decide)
  have e5 := h3.2 1 (by decide)
  have e6 := h3.2 2 (by decide)
  simp at h0 h1 h2 h3 e1 e2 e3 e4 e5 e6
  exact ⟨⟨h0, h1.1, h2.1, h3.1⟩, fun e => e1 e.symm, fun e => e2 e.symm, fun e => e4 e.symm, fun e => e3 e.symm, fun e => e5 e.symm, fun e => e6 e.symm⟩
theorem inter_four {a b c d : Int} (h : okNs [a, b, c, d] 4) : inter a b c d = (betw a c b != betw a d b) := by
  obtain ⟨⟨h0, h1, h2, h3⟩, h4⟩ := okNs_four h
  unfold inter
  rw [h0, h1, h2, h3, decide_eq_true h4]
  simp
theorem inter_eq {a b c d : Int} {j k : Nat} (hk : k < j) (hj : j < 4) (h : [a, b, c, d].getD j 0 = [a, b, c, d].getD k 0) : inter a b c d = false := by
  have h4 : ¬ (a ≠ b ∧ a ≠ c ∧ a ≠ d ∧ b ≠ c ∧ b ≠ d ∧ c ≠ d) := by
    rintro ⟨e1, e2, e3, e4, e5, e6⟩
    match j, k, hk, hj with
    | 1, 0, _, _ => exact e1 (by simpa using h.symm)
    | 2, 0, _, _ => exact e2 (by simpa using h.symm)
    | 2, 1, _, _ => exact e4 (by simpa using h.symm)
    | 3, 0, _, _ => exact e3 (by simpa using h.symm)
    | 3, 1, _, _ => exact e5 (by simpa using h.symm)
    | 3, 2, _, _ => exact e6 (by simpa using h.symm)
  unfold inter
  rw [decide_eq_false h4]
  simp
theorem inter_out {a b c d : Int} {j : Nat} (hj : j < 4) (h : inB ([a, b, c, d].getD j 0) 0 7 = false) : inter a b c d = false := by
  unfold inter
  match j, hj with
  | 0, _ => simp at h; simp [h]
  | 1, _ => simp at h; simp [h]
  | 2, _ => simp at h; simp [h]
  | 3, _ => simp at h; simp [h]
theorem met_end (a b c d : Int) : (decide (met a c d ((b - a) % 8).toNat = 1)) = (betw a c b != betw a d b) := by
  have e : (((b - a) % 8).toNat : Int) = (b - a) % 8 := by omega
  unfold met betw
  by_cases h1 : (c - a) % 8 < (b - a) % 8 <;> by_cases h2 : (d - a) % 8 < (b - a) % 8 <;> simp [e, h1, h2]
/-- what Conflict answers. -/
def conf (a b : Pth) : Bool :=
  if isP a && isP b && !(decide (a.kind = 2) && decide (b.kind = 2)) then
    if a.kind = 2 then decide (b.frm = a.frm) || decide (b.to = a.frm)
    else if b.kind = 2 then decide (a.frm = b.frm) || decide (a.to = b.frm)
    else if a.frm = b.frm then false
    else if a.to = b.to then true
    else inter (inPl a.frm) (outPl a.to) (inPl b.frm) (outPl b.to)
  else false
theorem conf_no {a b : Pth} (h : (isP a && isP b && !(decide (a.kind = 2) && decide (b.kind = 2))) = false) : conf a b = false := by unfold conf; rw [h]; rfl
/-- the index of the first path with this Id. -/
def findK (id : Int) : List Pth → Option Nat
  | [] => none
  | p :: ps => if p.id = id then some 0 else (findK id ps).map (· + 1)
/-- what FindPath answers. -/
def findI (id : Int) (ps : List Pth) : Int := match findK id ps with | none => -1 | some k => k
theorem findK_some {id : Int} : ∀ {ps : List Pth} {k : Nat} {p : Pth}, (∀ j q, j < k → ps[j]? = some q → q.id ≠ id) → ps[k]? = some p → p.id = id → findK id ps = some k
  | [], k, p, _, h, _ => by simp at h
  | x :: ps, 0, p, _, h, hp => by
    simp at h
    subst h
    simp [findK, hp]
  | x :: ps, k + 1, p, hn, h, hp => by
    have h0 := hn 0 x (by omega) (by simp)
    have ih := findK_some (ps := ps) (k := k) (p := p) (fun j q hj hq => hn (j + 1) q (by omega) (by simpa using hq)) (by simpa using h) hp
    simp [findK, h0, ih]
theorem findK_none {id : Int} : ∀ {ps : List Pth}, (∀ (j : Nat) q, ps[j]? = some q → q.id ≠ id) → findK id ps = none
  | [], _ => rfl
  | x :: ps, hn => by
    have h0 := hn 0 x (by simp)
    have ih := findK_none (ps := ps) (fun j q hq => hn (j + 1) q (by simpa using hq))
    simp [findK, h0, ih]
theorem findK_at {id : Int} : ∀ {ps : List Pth} {k : Nat}, findK id ps = some k → ∃ p, ps[k]? = some p ∧ p.id = id ∧ ∀ (j : Nat) q, j < k → ps[j]? = some q → q.id ≠ id
  | [], k, h => by simp [findK] at h
  | x :: ps, k, h => by
    unfold findK at h
    split at h
    · rename_i hx
      simp at h
      subst h
      exact ⟨x, by simp, hx, fun j q hj => absurd hj (by omega)⟩
    · rename_i hx
      cases e : findK id ps with
      | none => rw [e] at h; simp at h
      | some m =>
        rw [e] at h
        simp at h
        subst h
        obtain ⟨p, h1, h2, h3⟩ := findK_at e
        refine ⟨p, by simpa using h1, h2, fun j q hj hq => ?_⟩
        match j, hj, hq with
        | 0, _, hq => simp at hq; subst hq; exact hx
        | j + 1, hj, hq => exact h3 j q (by omega) (by simpa using hq)
/-- the k-th path is valid, and its Id is beyond the one before. -/
def goodAt (ps : List Pth) (k : Nat) : Bool := match ps[k]? with
  | none => false
  | some p => isP p && (match k with | 0 => true | m + 1 => match ps[m]? with | none => false | some q => decide (q.id < p.id))
/-- what ArePaths answers. -/
def arePs (ps : List Pth) : Bool := (List.range ps.length).all (goodAt ps) && decide (ps.length ≤ 12)
theorem arePs_no {ps : List Pth} {k : Nat} (hk : k < ps.length) (h : goodAt ps k = false) : arePs ps = false := by
  unfold arePs
  have : (List.range ps.length).all (goodAt ps) = false := by
    rw [Bool.eq_false_iff]
    intro ha
    have := List.all_eq_true.1 ha k (List.mem_range.2 hk)
    rw [h] at this
    cases this
  rw [this]
  rfl
theorem arePs_end {ps : List Pth} (h : ∀ k, k < ps.length → goodAt ps k = true) : arePs ps = decide (ps.length ≤ 12) := by
  unfold arePs
  have : (List.range ps.length).all (goodAt ps) = true := List.all_eq_true.2 fun k hk => h k (List.mem_range.1 hk)
  rw [this]
  simp
end Go.Proofs.Ytblilnfkpfjclaa

/- Contracts of the laws' own helpers: copies, comparisons, marks. -/
namespace Go.Proofs.Ytblilnfkpfjclaa
open Go.RowKit
set_option linter.unusedVariables false

/-- what a mark writes. -/
def marks (k : IntKind) (s : Int) (n : Nat) : List Int := (List.range n).map fun (j : Nat) => k.wrap (s + (j : Int))
theorem marks_length (k : IntKind) (s : Int) (n : Nat) : (marks k s n).length = n := by simp [marks]
theorem marks_getD {k : IntKind} {s : Int} {n j : Nat} (h : j < n) : (marks k s n).getD j 0 = k.wrap (s + (j : Int)) := by
  simp [marks, List.getD_eq_getElem?_getD, h]
theorem set_prefix {zs ys : List Int} {j : Nat} {x : Int} (h : j < zs.length) (hx : ys.getD j 0 = x) (hj : j < ys.length) : (ys.take j ++ zs.drop j).set j x = ys.take (j + 1) ++ zs.drop (j + 1) := by
  apply List.ext_getElem?
  intro i
  have e : ys[j]? = some x := by rw [List.getElem?_eq_getElem hj] ; rw [List.getD_eq_getElem?_getD, List.getElem?_eq_getElem hj] at hx; simpa using hx
  simp only [List.getElem?_set, List.getElem?_append, List.length_append, List.length_take, List.length_drop, List.getElem?_take, List.getElem?_drop]
  by_cases h1 : i < j
  · have a1 : i < min j ys.length := by omega
    have a2 : i < min (j + 1) ys.length := by omega
    have a3 : ¬ j = i := by omega
    have a4 : i < j + 1 := by omega
    simp [h1, a1, a2, a3, a4]
  · by_cases h2 : i = j
    · subst h2
      have a2 : i < min (i + 1) ys.length := by omega
      have a3 : i < min i ys.length + (zs.length - i) := by omega
      simp only [a2, a3, if_true, e]
      have : i < i + 1 := by omega
      simp [this]
    · have a1 : ¬ i < min j ys.length := by omega
      have a2 : ¬ i < min (j + 1) ys.length := by omega
      have a3 : ¬ j = i := by omega
      rw [if_neg a3, if_neg a1, if_neg a2]
      congr 1
      omega
theorem take_all {zs : List Int} {n : Nat} (h : zs.length = n) (ys : List Int) (hy : ys.length ≤ n) : zs.take n ++ ys.drop n = zs := by
  rw [List.take_of_length_le (by omega), List.drop_of_length_le (by omega), List.append_nil]
/-- the first j elements are the same. -/
theorem same_step {a b : List Int} {j : Nat} (h : a.take j = b.take j) (ha : j < a.length) (hb : j < b.length) (e : a.getD j 0 = b.getD j 0) : a.take (j + 1) = b.take (j + 1) := by
  have e' : a[j] = b[j] := by
    rw [List.getD_eq_getElem?_getD, List.getD_eq_getElem?_getD, List.getElem?_eq_getElem ha, List.getElem?_eq_getElem hb] at e
    simpa using e
  rw [List.take_add_one, List.take_add_one, h, List.getElem?_eq_getElem ha, List.getElem?_eq_getElem hb, e']
theorem same_not {a b : List Int} {j : Nat} (e : ¬ a.getD j 0 = b.getD j 0) : decide (a = b) = false := by
  rw [decide_eq_false_iff_not]
  rintro rfl
  exact e rfl
theorem same_all {a b : List Int} {n : Nat} (h : a.take n = b.take n) (ha : a.length = n) (hb : b.length = n) : decide (a = b) = true := by
  rw [decide_eq_true_eq]
  rw [List.take_of_length_le (by omega), List.take_of_length_le (by omega)] at h
  exact h

theorem info_u8 : (Try.prog.info? 5).map (fun i => (i.zero, i.size, i.bytes)) = some (some (.int .u8 0), 1, IntKind.u8.bits / 8) := by kernel_rfl
theorem info_i64 : (Try.prog.info? 3).map (fun i => (i.zero, i.size, i.bytes)) = some (some (.int .i64 0), 1, IntKind.i64.bits / 8) := by kernel_rfl
theorem to_i64 (A : Option Addr) (n c B : Nat) (zs : List Int) (w : World) (h : IntsAt .i64 w B A n zs) (hB : B ≤ w.heap.size) (hn : n ≤ 4398046511104) :
    Calls Try.prog 33 #[.slice A n c] w fun e w' => e = .returned (.slice (some ⟨w.heap.size, 0, none⟩) n n) ∧ Own .i64 3 w' w.heap.size (.slice (some ⟨w.heap.size, 0, none⟩) n n) zs ∧ Below w.heap.size w w' := by
  have hl := h.1
  go_enter Try.func33, Try.ntmps33
  go_wp2_with ((with_reducible show wpList _ _ _ _ _ _); refine wpList_mk rfl _ _ _ rfl .i64 3 _ Try.underlying42 info_i64 (by decide) (n : Int) (n : Int) n rfl rfl rfl rfl hn ?_; intro w1 hown hgrow)
  go_loopw [4] (fun i wr => ∃ k : Nat, k ≤ n ∧ i = .int .i64 k ∧ Own .i64 3 wr w.heap.size (.slice (some ⟨w.heap.size, 0, none⟩) n n) (zs.take k ++ (List.replicate n 0).drop k) ∧ Below w.heap.size w wr) (fun i _ => n - (intOf i).toNat)
  case atStart => exact ⟨0, Nat.zero_le _, rfl, by simpa using hown, below_grown hgrow⟩
  case round =>
    obtain ⟨k, hk, rfl, hown, hbl⟩ := hrel
    by_cases hlt : k < n
    · obtain ⟨ad, rfl, hab, hcell⟩ := h.2 (by omega)
      have hc := (hbl.cell (by rw [add_block]; omega)).trans (hcell k hlt)
      have hf := hown.free k
      have hc2 := hown.cell k (by simp; omega)
      have hs := hown.stored k (zs.getD k 0)
      rw [set_prefix (by simp; omega) rfl (by omega)] at hs
      have HS := Lib.hid hs
      clear hcell hown hs
      generalize zs.getD k 0 = z at *
      go_wp2
      go_roundw
      case rel => exact ⟨k + 1, by omega, by go_num, HS.out, hbl.setCell (Nat.le_refl _) _⟩
      case measure => simp [intOf]; omega
    · obtain rfl : k = n := by omega
      rw [take_all hl _ (by simp)] at hown
      go_wp2
      go_ret
      exact ⟨rfl, hown, hbl⟩
theorem eq_i64 (A : Option Addr) (n c B : Nat) (zs : List Int) (A2 : Option Addr) (n2 c2 B2 : Nat) (zs2 : List Int) (w : World) (h : IntsAt .i64 w B A n zs) (h2 : IntsAt .i64 w B2 A2 n2 zs2) (hn : n ≤ 4398046511104) (hn2 : n2 ≤ 4398046511104) :
    Calls Try.prog 28 #[.slice A n c, .slice A2 n2 c2] w fun e w' => e = .returned (.bool (decide (zs = zs2))) ∧ Below w.heap.size w w' := by
  have hl := h.1
  have hl2 := h2.1
  by_cases hne : n = n2
  · subst hne
    go_enter Try.func28, Try.ntmps28
    go_wp2
    go_loopw [5] (fun i wr => ∃ k : Nat, k ≤ n ∧ i = .int .i64 k ∧ zs.take k = zs2.take k ∧ Below w.heap.size w wr ∧ wr.heap = w.heap) (fun i _ => n - (intOf i).toNat)
    case atStart => exact ⟨0, Nat.zero_le _, rfl, by simp, Below.refl _ _, rfl⟩
    case round =>
      obtain ⟨k, hk, rfl, hsame, hbl, hheap⟩ := hrel
      by_cases hlt : k < n
      · obtain ⟨ad, rfl, hab, hcell⟩ := h.2 (by omega)
        obtain ⟨ad2, rfl, hab2, hcell2⟩ := h2.2 (by omega)
        have hc : wr.cell? (ad.add k) = _ := (World.cell?_of_block (by rw [hheap])).trans (hcell k hlt)
        have hc2 : wr.cell? (ad2.add k) = _ := (World.cell?_of_block (by rw [hheap])).trans (hcell2 k hlt)
        have HH := Lib.hid hheap
        clear hcell hcell2 hheap
        by_cases e : zs.getD k 0 = zs2.getD k 0
        · have HN := Lib.hid (same_step hsame (by omega) (by omega) e)
          clear hsame
          have e' : (!(zs.getD k 0 == zs2.getD k 0)) = false := by simpa using e
          have E' := Lib.hid e'
          clear e e'
          generalize zs.getD k 0 = z at *
          generalize zs2.getD k 0 = z2 at *
          have e' := E'.out
          obtain rfl : z = z2 := by simpa using e'
          clear e'
          go_wp2
          go_quiet (fail)
          go_wp2
          go_roundw
          case rel => exact ⟨k + 1, by omega, by go_num, HN.out, belowN hbl _, HH.out⟩
          case measure => simp [intOf]; omega
        · have HN := Lib.hid (same_not e)
          have e' : (!(zs.getD k 0 == zs2.getD k 0)) = true := by simpa using e
          have e2 : (zs.getD k 0 != zs2.getD k 0) = true := by simpa using e
          clear hsame e
          generalize zs.getD k 0 = z at *
          generalize zs2.getD k 0 = z2 at *
          go_wp2
          go_quiet (fail)
          go_wp2
          go_ret
          exact ⟨by rw [HN.out]; rfl, belowN hbl _⟩
      · obtain rfl : k = n := by omega
        have HN := Lib.hid (same_all hsame hl hl2)
        clear hsame
        go_wp2
        go_ret
        exact ⟨by rw [HN.out]; rfl, hbl⟩
  · have HN : Hid (decide (zs = zs2) = false) := Lib.hid (by rw [decide_eq_false_iff_not]; rintro rfl; omega)
    go_enter Try.func28, Try.ntmps28
    go_wp2
    go_ret
    exact ⟨by rw [HN.out]; rfl, Below.refl _ _⟩
theorem spec_EqualInts (A : Option Addr) (n c B : Nat) (zs : List Int) (A2 : Option Addr) (n2 c2 B2 : Nat) (zs2 : List Int) (w : World) (h : IntsAt .i64 w B A n zs) (h2 : IntsAt .i64 w B2 A2 n2 zs2) (hn : n ≤ 4398046511104) (hn2 : n2 ≤ 4398046511104) :
    Calls Try.prog 87 #[.slice A n c, .slice A2 n2 c2] w fun e w' => e = .returned (.bool (decide (zs = zs2))) ∧ Below w.heap.size w w' := by
  have hl := h.1
  have hl2 := h2.1
  by_cases hne : n = n2
  · subst hne
    go_enter Try.func87, Try.ntmps87
    go_wp2
    go_loopw [5] (fun i wr => ∃ k : Nat, k ≤ n ∧ i = .int .i64 k ∧ zs.take k = zs2.take k ∧ Below w.heap.size w wr ∧ wr.heap = w.heap) (fun i _ => n - (intOf i).toNat)
    case atStart => exact ⟨0, Nat.zero_le _, rfl, by simp, Below.refl _ _, rfl⟩
    case round =>
      obtain ⟨k, hk, rfl, hsame, hbl, hheap⟩ := hrel
      by_cases hlt : k < n
      · obtain ⟨ad, rfl, hab, hcell⟩ := h.2 (by omega)
        obtain ⟨ad2, rfl, hab2, hcell2⟩ := h2.2 (by omega)
        have hc : wr.cell? (ad.add k) = _ := (World.cell?_of_block (by rw [hheap])).trans (hcell k hlt)
        have hc2 : wr.cell? (ad2.add k) = _ := (World.cell?_of_block (by rw [hheap])).trans (hcell2 k hlt)
        have HH := Lib.hid hheap
        clear hcell hcell2 hheap
        by_cases e : zs.getD k 0 = zs2.getD k 0
        · have HN := Lib.hid (same_step hsame (by omega) (by omega) e)
          clear hsame
          have e' : (!(zs.getD k 0 == zs2.getD k 0)) = false := by simpa using e
          have E' := Lib.hid e'
          clear e e'
          generalize zs.getD k 0 = z at *
          generalize zs2.getD k 0 = z2 at *
          have e' := E'.out
          obtain rfl : z = z2 := by simpa using e'
          clear e'
          go_wp2
          go_quiet (fail)
          go_wp2
          go_roundw
          case rel => exact ⟨k + 1, by omega, by go_num, HN.out, belowN hbl _, HH.out⟩
          case measure => simp [intOf]; omega
        · have HN := Lib.hid (same_not e)
          have e' : (!(zs.getD k 0 == zs2.getD k 0)) = true := by simpa using e
          have e2 : (zs.getD k 0 != zs2.getD k 0) = true := by simpa using e
          clear hsame e
          generalize zs.getD k 0 = z at *
          generalize zs2.getD k 0 = z2 at *
          go_wp2
          go_quiet (fail)
          go_wp2
          go_ret
          exact ⟨by rw [HN.out]; rfl, belowN hbl _⟩
      · obtain rfl : k = n := by omega
        have HN := Lib.hid (same_all hsame hl hl2)
        clear hsame
        go_wp2
        go_ret
        exact ⟨by rw [HN.out]; rfl, hbl⟩
  · have HN : Hid (decide (zs = zs2) = false) := Lib.hid (by rw [decide_eq_false_iff_not]; rintro rfl; omega)
    go_enter Try.func87, Try.ntmps87
    go_wp2
    go_ret
    exact ⟨by rw [HN.out]; rfl, Below.refl _ _⟩
theorem mark_i64 (A : Option Addr) (n c lo s : Nat) (zs : List Int) (w : World) (h : Own .i64 3 w lo (.slice A n c) zs) (hn : n ≤ 4398046511104) (hs : s ≤ 70368744177664) :
    Calls Try.prog 30 #[.slice A n c, .int .i64 s] w fun e w' => e = .returned (.int .i64 ((s + n : Nat) : Int)) ∧ Own .i64 3 w' lo (.slice A n c) (marks .i64 s n) ∧ w.grownBy w' (Value.ownBlock (.slice A n c)) := by
  have hl := h.len
  go_enter Try.func30, Try.ntmps30
  go_wp2
  go_loopw [1, 5] (fun x i wr => ∃ k : Nat, k ≤ n ∧ i = .int .i64 k ∧ x = .int .i64 ((s + k : Nat) : Int) ∧ Own .i64 3 wr lo (.slice A n c) ((marks .i64 s n).take k ++ zs.drop k) ∧ w.grownBy wr (Value.ownBlock (.slice A n c))) (fun _ i _ => n - (intOf i).toNat)
  case atStart => exact ⟨0, Nat.zero_le _, rfl, rfl, by simpa using h, World.grownBy.refl _ _⟩
  case round =>
    obtain ⟨k, hk, rfl, rfl, hown, hbl⟩ := hrel
    by_cases hlt : k < n
    · rcases hown.shape with ⟨e, he⟩ | ⟨g, cap, e, hg, hgs, _⟩
      · injection e with _ e2; omega
      · injection e with e1 _ e3
        obtain rfl := e1
        have hc := hown.cell k (by simp [marks]; omega)
        have hf := hown.free k
        have hst := hown.stored k (IntKind.i64.wrap ((s + k : Nat) : Int))
        rw [set_prefix (by omega) (by rw [marks_getD hlt]; simp) (by rw [marks_length]; exact hlt)] at hst
        have HS := Lib.hid hst
        have HG := Lib.hid hbl
        clear hown hst hbl
        generalize ((marks .i64 s n).take k ++ zs.drop k).getD k 0 = z at *
        go_wp2
        go_roundw
        case rel =>
          refine ⟨k + 1, by omega, by go_num, by go_num, ?_, ?_⟩
          · have h1 := HS.out
            simp at h1 ⊢
            first
              | exact h1
              | (rw [show IntKind.i64.wrap ((s : Int) + (k : Int)) = (s : Int) + (k : Int) from by rw [IntKind.wrap_i64]; omega] at h1; exact h1)
          · exact only_setCell HG.out _ _
        case measure => simp [intOf]; omega
    · obtain rfl : k = n := by omega
      rw [take_all (marks_length _ _ _) _ (by omega)] at hown
      go_wp2
      go_ret
      exact ⟨rfl, hown, hbl⟩
theorem held_i64 (A : Option Addr) (n c B s : Nat) (w : World) (h : IntsAt .i64 w B A n (marks .i64 s n)) (hn : n ≤ 4398046511104) (hs : s ≤ 70368744177664) :
    Calls Try.prog 31 #[.slice A n c, .int .i64 s] w fun e w' => e = .returned (.int .i64 ((s + n : Nat) : Int)) ∧ Below w.heap.size w w' := by
  go_enter Try.func31, Try.ntmps31
  go_wp2
  go_loopw [1, 5] (fun x i wr => ∃ k : Nat, k ≤ n ∧ i = .int .i64 k ∧ x = .int .i64 ((s + k : Nat) : Int) ∧ Below w.heap.size w wr ∧ wr.heap = w.heap) (fun _ i _ => n - (intOf i).toNat)
  case atStart => exact ⟨0, Nat.zero_le _, rfl, rfl, Below.refl _ _, rfl⟩
  case round =>
    obtain ⟨k, hk, rfl, rfl, hbl, hheap⟩ := hrel
    by_cases hlt : k < n
    · obtain ⟨ad, rfl, hab, hcell⟩ := h.2 (by omega)
      have hc : wr.cell? (ad.add k) = _ := (World.cell?_of_block (by rw [hheap])).trans (hcell k hlt)
      rw [marks_getD hlt] at hc
      have HH := Lib.hid hheap
      clear hcell hheap
      go_wp2
      go_roundw
      case rel => exact ⟨k + 1, by omega, by go_num, by go_num, hbl, HH.out⟩
      case measure => simp [intOf]; omega
    · obtain rfl : k = n := by omega
      go_wp2
      go_ret
      exact ⟨rfl, hbl⟩
end Go.Proofs.Ytblilnfkpfjclaa

/- Contracts of chapter 4: program and model. -/
namespace Go.Proofs.Ytblilnfkpfjclaa
open Go.RowKit
set_option linter.unusedVariables false

theorem boxed {w w1 : World} {cs : Array Value} {T : TypeId} {fr : Nat × Nat} (hb : Below (w.alloc (.cells cs T fr)).heap.size (w.alloc (.cells cs T fr)) w1) (j : Nat) : w1.cell? ⟨w.heap.size, j, none⟩ = cs[j]? := by
  rw [hb.cell (p := ⟨w.heap.size, j, none⟩) (by simp), cell_of_row _ _ j cs T fr (heap_alloc_new w _)]
theorem cell_past {w : World} {p : Addr} {v : Value} (h : w.cell? p = some v) (o : Obj) : (w.alloc o).cell? p = some v := by
  have hlt : p.block < w.heap.size := by
    rcases Nat.lt_or_ge p.block w.heap.size with h' | h'
    · exact h'
    · simp [World.cell?, Array.getElem?_eq_none h'] at h
  exact (World.cell?_of_block (Below.heap_alloc w o _ hlt)).trans h
theorem spec_IsPath (p : Pth) (w : World) : Calls Try.prog 148 #[p.val] w fun e w' => e = .returned (.bool (isP p)) ∧ Below w.heap.size w w' := by
  obtain ⟨a, b, c, d⟩ := p
  simp only [Pth.val]
  have HI : Hid (isP ⟨a, b, c, d⟩ = (inB a 1 20 && inB b 1 3 && inB c 0 3 && inB d 0 3 && (decide (c = d) == decide (b = 2)))) := Lib.hid rfl
  go_enter Try.func148, Try.ntmps148
  go_wp2_with fail
  refine (spec_l1In _ _ _ _).mono ?_
  rintro e w1 ⟨rfl, rfl⟩
  cases h0 : inB a 1 20
  · rw [h0] at HI
    go_wp2
    go_ret
    exact ⟨by rw [HI.out]; simp, (Below.refl _ _).alloc (Nat.le_refl _) _⟩
  · rw [h0] at HI
    go_wp2_with fail
    refine (spec_l1In _ _ _ _).mono ?_
    rintro e w1 ⟨rfl, rfl⟩
    cases h1 : inB b 1 3
    · rw [h1] at HI
      go_wp2
      go_ret
      exact ⟨by rw [HI.out]; simp, (Below.refl _ _).alloc (Nat.le_refl _) _⟩
    · rw [h1] at HI
      go_wp2_with fail
      refine (spec_l1In _ _ _ _).mono ?_
      rintro e w1 ⟨rfl, rfl⟩
      cases h2 : inB c 0 3
      · rw [h2] at HI
        go_wp2
        go_ret
        exact ⟨by rw [HI.out]; simp, (Below.refl _ _).alloc (Nat.le_refl _) _⟩
      · rw [h2] at HI
        go_wp2_with fail
        refine (spec_l1In _ _ _ _).mono ?_
        rintro e w1 ⟨rfl, rfl⟩
        cases h3 : inB d 0 3
        · rw [h3] at HI
          go_wp2
          go_ret
          exact ⟨by rw [HI.out]; first | (simp; done) | (simp; rfl), (Below.refl _ _).alloc (Nat.le_refl _) _⟩
        · rw [h3] at HI
          go_wp2
          go_ret
          exact ⟨by rw [HI.out]; first | (simp; done) | (simp; rfl), (Below.refl _ _).alloc (Nat.le_refl _) _⟩
end Go.Proofs.Ytblilnfkpfjclaa

/- Interleave: the model. -/
namespace Go.Proofs.Ytblilnfkpfjclaa
open Go.RowKit
set_option linter.unusedVariables false

theorem nat_one (m : Nat) : ((m : Int) == 1) = decide (m = 1) := by
  by_cases h : m = 1
  · subst h; rfl
  · rw [decide_eq_false h]
    have h2 : ¬ ((m : Int) = 1) := by omega
    simpa using h2
theorem ret_val {x y : Int} (h : x = y) : Value.int .i64 x = Value.int .i64 y := by rw [h]
end Go.Proofs.Ytblilnfkpfjclaa

/- What a law's walk knows of the slices that are alive; the laws' helpers in these words. -/
namespace Go.Proofs.Ytblilnfkpfjclaa
open Go.RowKit
set_option linter.unusedVariables false

/-- a slice that may be read: these integers, in memory that is there. -/
structure Sl (k : IntKind) (w : World) (A : Option Addr) (n c : Nat) (zs : List Int) : Prop where
  ints : IntsAt k w w.heap.size A n zs
  bare : A = none → n = 0 ∧ c = 0
  small : n ≤ 1099511627776
  cap : n ≤ c ∧ c ≤ maxLen
  wf : ∀ z ∈ zs, (Lit.int k z).wf = true
theorem Sl.len {k : IntKind} {w : World} {A : Option Addr} {n c : Nat} {zs : List Int} (h : Sl k w A n c zs) : zs.length = n := h.ints.1
theorem IntsAt.up {k : IntKind} {w : World} {B B' : Nat} {A : Option Addr} {n : Nat} {zs : List Int} (h : IntsAt k w B A n zs) (hB : B ≤ B') : IntsAt k w B' A n zs :=
  ⟨h.1, fun hn => by obtain ⟨ad, e, hb, hc⟩ := h.2 hn; exact ⟨ad, e, by omega, hc⟩⟩
theorem Sl.below {k : IntKind} {w w' : World} {A : Option Addr} {n c : Nat} {zs : List Int} (h : Sl k w A n c zs) (hb : Below w.heap.size w w') : Sl k w' A n c zs :=
  ⟨(h.ints.keep fun _ hp => hb.cell hp).up hb.size, h.bare, h.small, h.cap, h.wf⟩
theorem Sl.u8 {w : World} {A : Option Addr} {n c : Nat} {zs : List Int} (h : Sl .u8 w A n c zs) : ∀ z ∈ zs, 0 ≤ z ∧ z ≤ 255 := fun z hz => by
  have h' : (decide (IntKind.u8.min ≤ z) && decide (z ≤ IntKind.u8.max)) = true := h.wf z hz
  simp only [Bool.and_eq_true, decide_eq_true_eq] at h'
  exact h'
theorem u8_wf {z : Int} (h : 0 ≤ z ∧ z ≤ 255) : (Lit.int .u8 z).wf = true := by
  show (decide (IntKind.u8.min ≤ z) && decide (z ≤ IntKind.u8.max)) = true
  simp only [Bool.and_eq_true, decide_eq_true_eq]
  exact h
theorem i64_wf {z : Int} (h : -9223372036854775808 ≤ z ∧ z ≤ 9223372036854775807) : (Lit.int .i64 z).wf = true := by
  show (decide (IntKind.i64.min ≤ z) && decide (z ≤ IntKind.i64.max)) = true
  simp only [Bool.and_eq_true, decide_eq_true_eq]
  exact h
/-- a slice of the call's own, in a row between two block numbers. -/
structure Ow (k : IntKind) (E : TypeId) (w : World) (lo hi : Nat) (v : Value) (zs : List Int) : Prop where
  own : Own k E w lo v zs
  lt : ∀ g, v.ownBlock = some g → g < hi
  top : hi ≤ w.heap.size
theorem Ow.new {k : IntKind} {E : TypeId} {w : World} {lo : Nat} {v : Value} {zs : List Int} (h : Own k E w lo v zs) : Ow k E w lo w.heap.size v zs := ⟨h, fun g e => (h.block g e).2, Nat.le_refl _⟩
theorem Ow.below {k : IntKind} {E : TypeId} {w w' : World} {lo hi : Nat} {v : Value} {zs : List Int} (h : Ow k E w lo hi v zs) (hb : Below w.heap.size w w') : Ow k E w' lo hi v zs := ⟨h.own.below hb, h.lt, Nat.le_trans h.top hb.size⟩
theorem Ow.ints {k : IntKind} {E : TypeId} {w : World} {lo hi : Nat} {A : Option Addr} {n c : Nat} {zs : List Int} (h : Ow k E w lo hi (.slice A n c) zs) : IntsAt k w w.heap.size A n zs := h.own.ints
theorem Own.nilcap' {k : IntKind} {E : TypeId} {w : World} {lo : Nat} {A : Option Addr} {n c : Nat} {zs : List Int} (h : Own k E w lo (.slice A n c) zs) : A = none → n = 0 ∧ c = 0 := by
  rintro rfl
  rcases h.shape with ⟨e, rfl⟩ | ⟨g, cap, e, _⟩
  · injection e with e1 e2 e3; exact ⟨e2, e3⟩
  · injection e with e1; cases e1
theorem Own.cap {k : IntKind} {E : TypeId} {w : World} {lo : Nat} {A : Option Addr} {n c : Nat} {zs : List Int} (h : Own k E w lo (.slice A n c) zs) : n ≤ c ∧ c ≤ maxLen := by
  have hn := h.len
  rcases h.shape with ⟨e, rfl⟩ | ⟨g, cap, e, _, _, h1, h2⟩
  · injection e with e1 e2 e3; subst e3; subst e2; exact ⟨Nat.le_refl _, by decide⟩
  · injection e with e1 e2 e3; subst e3; exact ⟨by omega, h2⟩
theorem Ow.sl {k : IntKind} {E : TypeId} {w : World} {lo hi : Nat} {A : Option Addr} {n c : Nat} {zs : List Int} (h : Ow k E w lo hi (.slice A n c) zs) (hn : n ≤ 1099511627776) (hw : ∀ z ∈ zs, (Lit.int k z).wf = true) : Sl k w A n c zs := ⟨h.ints, h.own.nilcap', hn, h.own.cap, hw⟩
/-- Rows between two block numbers alone have been written. -/
structure Part (lo hi : Nat) (w w' : World) : Prop where
  os : w'.os = w.os
  tape : w'.tape = w.tape
  output : w'.output = w.output
  size : w.heap.size ≤ w'.heap.size
  block : ∀ i, i < w.heap.size → (i < lo ∨ hi ≤ i) → w'.heap[i]? = w.heap[i]?
theorem Part.below {lo hi : Nat} {w w' : World} (h : Part lo hi w w') {B : Nat} (hB : B ≤ lo) (hs : B ≤ w.heap.size) : Below B w w' := ⟨h.os, h.tape, h.output, h.size, fun i hi => h.block i (by omega) (.inl (by omega))⟩
theorem Ow.part {k : IntKind} {E : TypeId} {w w' : World} {lo hi l h' : Nat} {v : Value} {zs : List Int} (h : Ow k E w lo hi v zs) (hp : Part l h' w w') (hd : hi ≤ l ∨ h' ≤ lo) : Ow k E w' lo hi v zs := by
  refine ⟨⟨h.own.1, ?_⟩, h.lt, Nat.le_trans h.top hp.size⟩
  rcases h.own.2 with h2 | ⟨g, cap, cur, rfl, hl, hg, r⟩
  · exact .inl h2
  · have hlt := h.lt g rfl
    have htop := h.top
    exact .inr ⟨g, cap, cur, rfl, hl, (hp.block g (by omega) (by omega)).trans hg, r⟩
theorem marked_i64 (A : Option Addr) (n c lo hi s : Nat) (zs : List Int) (w : World) (h : Ow .i64 3 w lo hi (.slice A n c) zs) (hn : n ≤ 4398046511104) (hs : s ≤ 70368744177664) :
    Calls Try.prog 30 #[.slice A n c, .int .i64 s] w fun e w' => e = .returned (.int .i64 ((s + n : Nat) : Int)) ∧ Ow .i64 3 w' lo hi (.slice A n c) (marks .i64 s n) ∧ Part lo hi w w' := by
  refine (mark_i64 A n c lo s zs w h.own hn hs).mono fun e w' ⟨he, ho, hg⟩ => ⟨he, ⟨ho, h.lt, Nat.le_trans h.top hg.size⟩, ⟨hg.os, hg.tape, hg.output, hg.size, fun i hi' hd => hg.block i hi' fun e => ?_⟩⟩
  have h1 := h.lt i e.symm
  have h2 := (h.own.block i e.symm).1
  omega
theorem eqs_i64 (A : Option Addr) (n c : Nat) (zs : List Int) (A2 : Option Addr) (n2 c2 : Nat) (w : World) (h : IntsAt .i64 w w.heap.size A n zs) (h2 : IntsAt .i64 w w.heap.size A2 n2 zs) (hn : n ≤ 4398046511104) (hn2 : n2 ≤ 4398046511104) :
    Calls Try.prog 28 #[.slice A n c, .slice A2 n2 c2] w fun e w' => e = .returned (.bool true) ∧ Below w.heap.size w w' :=
  (eq_i64 A n c _ zs A2 n2 c2 _ zs w h h2 hn hn2).mono fun e w' ⟨he, hb⟩ => ⟨by rw [he, decide_eq_true rfl], hb⟩
end Go.Proofs.Ytblilnfkpfjclaa

/- Rows of paths: the laws' helpers. -/
namespace Go.Proofs.Ytblilnfkpfjclaa
open Go.RowKit
set_option linter.unusedVariables false

/-- the cells of a list of paths. -/
def pcells (ps : List Pth) : List Value := ps.flatMap Pth.cells
theorem pcells_length (ps : List Pth) : (pcells ps).length = ps.length * 4 := flat_length (f := Pth.cells) (fun _ => rfl) ps
theorem pcells_take {ps : List Pth} {k : Nat} {p : Pth} (h : ps[k]? = some p) : pcells (ps.take (k + 1)) = pcells (ps.take k) ++ p.cells := by
  unfold pcells
  rw [List.take_add_one, h, List.flatMap_append]
  simp
theorem pcells_one (ps : List Pth) : ∀ u ∈ pcells ps, u.oneCell' = true := by
  intro u hu
  obtain ⟨p, _, hp⟩ := List.mem_flatMap.1 hu
  simp only [Pth.cells, List.mem_cons, List.not_mem_nil, or_false] at hp
  rcases hp with rfl | rfl | rfl | rfl <;> rfl
/-- one path stored behind those before it. -/
theorem pcells_put {ps : List Pth} {zs : List Value} {k : Nat} {p : Pth} (h : ps[k]? = some p) (hz : k * 4 + 4 ≤ zs.length) :
    ((((pcells (ps.take k) ++ zs.drop (k * 4)).set (k * 4) (.int .i64 p.id)).set (k * 4 + 1) (.int .i64 p.kind)).set (k * 4 + 2) (.int .i64 p.frm)).set (k * 4 + 3) (.int .i64 p.to) = pcells (ps.take (k + 1)) ++ zs.drop ((k + 1) * 4) := by
  obtain ⟨z0, z1, z2, z3, hd⟩ := drop4 hz
  have hk := (List.getElem?_eq_some_iff.1 h).1
  rw [hd, set4 (by rw [pcells_length, List.length_take]; omega), pcells_take h]
  simp [Pth.cells, Nat.add_mul]
/-- A slice value that holds these paths, in a block below B. -/
def PthsAt (w : World) (B : Nat) (A : Option Addr) (n : Nat) (ps : List Pth) : Prop := ps.length = n ∧ CellsAt w B A (n * 4) (pcells ps)
theorem PthsAt.keep {w w' : World} {B : Nat} {A : Option Addr} {n : Nat} {ps : List Pth} (h : PthsAt w B A n ps) (hk : ∀ p : Addr, p.block < B → w'.cell? p = w.cell? p) : PthsAt w' B A n ps := ⟨h.1, h.2.keep hk⟩
theorem PthsAt.below {w w' : World} {B : Nat} {A : Option Addr} {n : Nat} {ps : List Pth} (h : PthsAt w B A n ps) (hb : Below B w w') : PthsAt w' B A n ps := ⟨h.1, h.2.below hb⟩
theorem PthsAt.up {w : World} {B B' : Nat} {A : Option Addr} {n : Nat} {ps : List Pth} (h : PthsAt w B A n ps) (hB : B ≤ B') : PthsAt w B' A n ps := ⟨h.1, h.2.up hB⟩
/-- a path lies at q. -/
structure PthAt (w : World) (q : Addr) (p : Pth) : Prop where
  c0 : w.cell? q = some (.int .i64 p.id)
  c1 : w.cell? ⟨q.block, q.off + 1, none⟩ = some (.int .i64 p.kind)
  c2 : w.cell? ⟨q.block, q.off + 2, none⟩ = some (.int .i64 p.frm)
  c3 : w.cell? ⟨q.block, q.off + 3, none⟩ = some (.int .i64 p.to)
theorem PthAt.keep {w w' : World} {q : Addr} {p : Pth} (h : PthAt w q p) (e : w'.heap[q.block]? = w.heap[q.block]?) : PthAt w' q p :=
  ⟨(World.cell?_of_block e).trans h.c0, (World.cell?_of_block (a := ⟨q.block, q.off + 1, none⟩) e).trans h.c1, (World.cell?_of_block (a := ⟨q.block, q.off + 2, none⟩) e).trans h.c2, (World.cell?_of_block (a := ⟨q.block, q.off + 3, none⟩) e).trans h.c3⟩
theorem PthAt.below {w w' : World} {q : Addr} {p : Pth} {B : Nat} (h : PthAt w q p) (hb : Below B w w') (hB : q.block < B) : PthAt w' q p := h.keep (hb.block _ hB)
theorem add_plus (q : Addr) (i : Nat) (h : 0 < i) : q.add i = ⟨q.block, q.off + i, none⟩ := by unfold Addr.add; rw [if_neg (by omega)]
theorem PthsAt.at {w : World} {B : Nat} {A : Option Addr} {n : Nat} {ps : List Pth} (h : PthsAt w B A n ps) {k : Nat} (hk : k < n) : ∃ ad p, A = some ad ∧ (ad.add (k * 4)).block < B ∧ ps[k]? = some p ∧ PthAt w (ad.add (k * 4)) p := by
  obtain ⟨hl, _, hc⟩ := h
  obtain ⟨ad, e, hb, hc⟩ := hc (by omega)
  have hp : ps[k]? = some ps[k] := List.getElem?_eq_getElem (by omega)
  have hg := fun i (hi : i < 4) => flat_get (f := Pth.cells) (fun _ => rfl) ps k i _ hp hi
  have ha := fun i (hi : 0 < i) => (add_add ad (k * 4) i).symm.trans (add_plus _ i hi)
  refine ⟨ad, ps[k], e, by rw [add_block]; exact hb, hp, hc _ _ (hg 0 (by decide)), ?_, ?_, ?_⟩
  · rw [← ha 1 (by decide)]; exact hc _ _ (hg 1 (by decide))
  · rw [← ha 2 (by decide)]; exact hc _ _ (hg 2 (by decide))
  · rw [← ha 3 (by decide)]; exact hc _ _ (hg 3 (by decide))
theorem info_pth : (Try.prog.info? 81).map (fun i => (i.zero, i.size, i.bytes)) = some (some (.agg #[.int .i64 0, .int .i64 0, .int .i64 0, .int .i64 0]), 4, 32) := by kernel_rfl
theorem made_pth (n : Nat) : (madeCells (Value.agg #[Value.int .i64 0, Value.int .i64 0, Value.int .i64 0, Value.int .i64 0]).cells (n * 4)).toList = pcells (List.replicate n ⟨0, 0, 0, 0⟩) := by
  have h : (Value.agg #[Value.int .i64 0, Value.int .i64 0, Value.int .i64 0, Value.int .i64 0]).cells = #[Value.int .i64 0, Value.int .i64 0, Value.int .i64 0, Value.int .i64 0] := rfl
  rw [h]
  apply List.ext_getElem?
  intro i
  have hr : (pcells (List.replicate n ⟨0, 0, 0, 0⟩)) = List.replicate (n * 4) (Value.int .i64 0) := by
    induction n with
    | zero => rfl
    | succ n ih =>
      have e : (n + 1) * 4 = n * 4 + 1 + 1 + 1 + 1 := by omega
      unfold pcells at ih ⊢
      rw [List.replicate_succ, List.flatMap_cons, ih, e, List.replicate_succ, List.replicate_succ, List.replicate_succ, List.replicate_succ]
      rfl
  rw [hr]
  simp only [madeCells, Array.toList_map, List.getElem?_map, List.getElem?_replicate]
  by_cases hi : i < n * 4
  · have h4 : i % 4 = 0 ∨ i % 4 = 1 ∨ i % 4 = 2 ∨ i % 4 = 3 := by omega
    rcases h4 with h4 | h4 | h4 | h4 <;> simp [hi, h4]
  · simp [hi]
theorem law_toPath (p : Pth) (w : World) : Calls Try.prog 59 #[p.val] w fun e w' => e = .returned p.val ∧ Below w.heap.size w w' := by
  obtain ⟨a, b, c, d⟩ := p
  simp only [Pth.val]
  go_enter Try.func59, Try.ntmps59
  go_wp2
  refine bodyPost_ret (by rw [results_cell rfl]; go_simp; try rfl) rfl ?_
  exact ⟨rfl, ((((Below.refl _ _).alloc (Nat.le_refl _) _).alloc (by simp) _).alloc (by simp; omega) _)⟩
theorem law_toPathS (A : Option Addr) (n c B : Nat) (ps : List Pth) (w : World) (h : PthsAt w B A n ps) (hB : B ≤ w.heap.size) (hn : n ≤ 4294967296) :
    Calls Try.prog 16 #[.slice A n c] w fun e w' => e = .returned (.slice (some ⟨w.heap.size, 0, none⟩) n n) ∧ w'.ownsRow w.heap.size 81 4 (.slice (some ⟨w.heap.size, 0, none⟩) n n) n (pcells ps) ∧ Below w.heap.size w w' := by
  have hl := h.1
  go_enter Try.func16, Try.ntmps16
  go_wp2_with ((with_reducible show wpList _ _ _ _ _ _); refine wpList_mkR rfl _ _ _ rfl 81 _ 4 _ Try.underlying29 info_pth (by decide) (n : Int) (n : Int) n rfl rfl rfl rfl (by omega) ?_; intro w1 hown hgrow)
  go_loopw [4] (fun i wr => ∃ k : Nat, k ≤ n ∧ i = .int .i64 k ∧ wr.ownsRow w.heap.size 81 4 (.slice (some ⟨w.heap.size, 0, none⟩) n n) n (pcells (ps.take k) ++ (pcells (List.replicate n ⟨0, 0, 0, 0⟩)).drop (k * 4)) ∧ Below w.heap.size w wr) (fun i _ => n - (intOf i).toNat)
  case atStart => exact ⟨0, Nat.zero_le _, rfl, by rw [made_pth] at hown; simpa [pcells] using hown, below_grown hgrow⟩
  case round =>
    obtain ⟨k, hk, rfl, hown, hbl⟩ := hrel
    by_cases hlt : k < n
    · obtain ⟨ad, p, rfl, hab, hp, hq⟩ := h.at hlt
      obtain ⟨c0, c1, c2, c3⟩ := hq.below hbl (by omega)
      go_wp2_with fail
      refine (law_toPath p _).mono ?_
      rintro e w2 ⟨rfl, hb2⟩
      have hown2 := ownr_below hown hb2
      obtain ⟨x0, hx0⟩ := ownr_some hown2 (j := k * 4) (by omega)
      obtain ⟨x1, hx1⟩ := ownr_some hown2 (j := k * 4 + 1) (by omega)
      obtain ⟨x2, hx2⟩ := ownr_some hown2 (j := k * 4 + 2) (by omega)
      obtain ⟨x3, hx3⟩ := ownr_some hown2 (j := k * 4 + 3) (by omega)
      have f0 := World.ownsRow.frozenAt hown2
      have hst := (World.ownsRow.stored (World.ownsRow.stored (World.ownsRow.stored (World.ownsRow.stored hown2 (k * 4) (.int .i64 p.id)).1 (k * 4 + 1) (.int .i64 p.kind)).1 (k * 4 + 2) (.int .i64 p.frm)).1 (k * 4 + 3) (.int .i64 p.to)).1
      rw [pcells_put hp (by rw [pcells_length, List.length_replicate]; omega)] at hst
      have HS := Lib.hid hst
      have HB := Lib.hid (hbl.trans (hb2.mono hbl.size))
      simp only [Pth.val]
      clear hown hown2 hbl hb2 hst hq
      go_wp2
      go_roundw
      case rel => exact ⟨k + 1, by omega, by go_num, HS.out, (((HB.out.setCell (Nat.le_refl _) _).setCell (Nat.le_refl _) _).setCell (Nat.le_refl _) _).setCell (Nat.le_refl _) _⟩
      case measure => simp [intOf]; omega
    · obtain rfl : k = n := by omega
      rw [List.take_of_length_le (by omega), List.drop_of_length_le (by rw [pcells_length, List.length_replicate]; exact Nat.le_refl _), List.append_nil] at hown
      go_wp2
      go_ret
      exact ⟨rfl, hown, hbl⟩
theorem law_eqPath (p q : Pth) (w : World) : Calls Try.prog 63 #[p.val, q.val] w fun e w' => e = .returned (.bool (decide (p = q))) ∧ Below w.heap.size w w' := by
  obtain ⟨a, b, c, d⟩ := p
  obtain ⟨a', b', c', d'⟩ := q
  simp only [Pth.val, Pth.mk.injEq]
  have hb0 := ((Below.refl w.heap.size w).alloc (Nat.le_refl _) (.cells #[.int .i64 a, .int .i64 b, .int .i64 c, .int .i64 d] 81)).alloc (by simp) (.cells #[.int .i64 a', .int .i64 b', .int .i64 c', .int .i64 d'] 81)
  have HB := Lib.hid hb0
  clear hb0
  by_cases h0 : a = a'
  rotate_left
  · have e0 : (a != a') = true := by simpa using h0
    go_enter Try.func63, Try.ntmps63
    go_wp2
    go_ret
    exact ⟨by simp [h0], HB.out⟩
  subst h0
  by_cases h1 : b = b'
  rotate_left
  · have e0 : (b != b') = true := by simpa using h1
    go_enter Try.func63, Try.ntmps63
    go_wp2
    go_ret
    exact ⟨by simp [h1], HB.out⟩
  subst h1
  by_cases h2 : c = c'
  rotate_left
  · have e0 : (c != c') = true := by simpa using h2
    go_enter Try.func63, Try.ntmps63
    go_wp2
    go_ret
    exact ⟨by simp [h2], HB.out⟩
  subst h2
  by_cases h3 : d = d'
  rotate_left
  · have e0 : (d != d') = true := by simpa using h3
    go_enter Try.func63, Try.ntmps63
    go_wp2
    go_ret
    exact ⟨by simp [h3], HB.out⟩
  subst h3
  go_enter Try.func63, Try.ntmps63
  go_wp2
  go_ret
  exact ⟨by simp, HB.out⟩
theorem law_eqPathS (A : Option Addr) (n c B : Nat) (ps : List Pth) (A2 : Option Addr) (n2 c2 B2 : Nat) (qs : List Pth) (w : World) (h : PthsAt w B A n ps) (h2 : PthsAt w B2 A2 n2 qs) (hB : B ≤ w.heap.size) (hB2 : B2 ≤ w.heap.size) (hn : n ≤ 4294967296) (hn2 : n2 ≤ 4294967296) :
    Calls Try.prog 20 #[.slice A n c, .slice A2 n2 c2] w fun e w' => e = .returned (.bool (decide (ps = qs))) ∧ Below w.heap.size w w' := by
  have hl := h.1
  have hl2 := h2.1
  by_cases hne : n = n2
  · subst hne
    go_enter Try.func20, Try.ntmps20
    go_wp2
    go_loopw [5] (fun i wr => ∃ k : Nat, k ≤ n ∧ i = .int .i64 k ∧ ps.take k = qs.take k ∧ Below w.heap.size w wr) (fun i _ => n - (intOf i).toNat)
    case atStart => exact ⟨0, Nat.zero_le _, rfl, by simp, Below.refl _ _⟩
    case round =>
      obtain ⟨k, hk, rfl, hsame, hbl⟩ := hrel
      by_cases hlt : k < n
      · obtain ⟨ad, p, rfl, hab, hp, hq⟩ := h.at hlt
        obtain ⟨ad2, q, rfl, hab2, hp2, hq2⟩ := h2.at hlt
        replace hq := hq.below hbl (by omega)
        replace hq2 := hq2.below hbl (by omega)
        have i1 : (0 : Int) ≤ (k : Int) := by omega
        have i2 : (k : Int) < (n : Int) := by omega
        have hsz := hbl.size
        go_wp2
        go_region_held3 (fun W' => W'.cell? (ad.add (k * 4)) = some (.int .i64 p.id) ∧ W'.cell? ⟨(ad.add (k * 4)).block, (ad.add (k * 4)).off + 1, none⟩ = some (.int .i64 p.kind) ∧ W'.cell? ⟨(ad.add (k * 4)).block, (ad.add (k * 4)).off + 2, none⟩ = some (.int .i64 p.frm) ∧ W'.cell? ⟨(ad.add (k * 4)).block, (ad.add (k * 4)).off + 3, none⟩ = some (.int .i64 p.to) ∧
            W'.cell? (ad2.add (k * 4)) = some (.int .i64 q.id) ∧ W'.cell? ⟨(ad2.add (k * 4)).block, (ad2.add (k * 4)).off + 1, none⟩ = some (.int .i64 q.kind) ∧ W'.cell? ⟨(ad2.add (k * 4)).block, (ad2.add (k * 4)).off + 2, none⟩ = some (.int .i64 q.frm) ∧ W'.cell? ⟨(ad2.add (k * 4)).block, (ad2.add (k * 4)).off + 3, none⟩ = some (.int .i64 q.to))
          (first | exact ⟨hq.c0, hq.c1, hq.c2, hq.c3, hq2.c0, hq2.c1, hq2.c2, hq2.c3⟩ | exact ⟨hr.c0, hr.c1, hr.c2, hr.c3, hr2.c0, hr2.c1, hr2.c2, hr2.c3⟩ | fail "keep")
          (first
            | (go_at_call 63; refine (law_eqPath p q _).mono ?_; rintro e w3 ⟨rfl, hb3⟩; have hb3' : Below wr.heap.size wr w3 := below_undrew hb3; have hr := hq.below hb3' (by omega); have hr2 := hq2.below hb3' (by omega)))
        have HB := Lib.hid (hbl.trans (hb3'.mono hsz))
        clear hq hq2 hr hr2 hb3 hb3' hbl
        by_cases hpq : p = q
        · have HT : Hid (ps.take (k + 1) = qs.take (k + 1)) := Lib.hid (by rw [List.take_add_one, List.take_add_one, hsame, hp, hp2, hpq])
          rw [decide_eq_true hpq]
          clear hsame hp hp2
          go_wp2
          go_roundw
          case rel => exact ⟨k + 1, by omega, by go_num, HT.out, HB.out⟩
          case measure => simp [intOf]; omega
        · have HN : Hid (decide (ps = qs) = false) := Lib.hid (by rw [decide_eq_false_iff_not]; rintro rfl; rw [hp] at hp2; exact hpq (Option.some.inj hp2))
          rw [decide_eq_false hpq]
          clear hsame hp hp2
          go_wp2
          go_ret
          exact ⟨by rw [HN.out]; rfl, HB.out⟩
      · obtain rfl : k = n := by omega
        have HN : Hid (decide (ps = qs) = true) := Lib.hid (by rw [decide_eq_true_eq]; rwa [List.take_of_length_le (by omega), List.take_of_length_le (by omega)] at hsame)
        go_wp2
        go_ret
        exact ⟨by rw [HN.out]; rfl, hbl⟩
  · have HN : Hid (decide (ps = qs) = false) := Lib.hid (by rw [decide_eq_false_iff_not]; rintro rfl; omega)
    go_enter Try.func20, Try.ntmps20
    go_wp2
    go_ret
    exact ⟨by rw [HN.out]; rfl, Below.refl _ _⟩
theorem law_szPathS (A : Option Addr) (n c : Nat) (w : World) (hn : n ≤ 9223372036854775807) :
    Calls Try.prog 14 #[.slice A n c, .int .i64 1048576] w fun e w' => e = .returned (.int .i64 (if n ≤ 1048576 then 1048576 - (n : Int) else -1)) ∧ w = w' := by
  by_cases h : n ≤ 1048576
  · rw [if_pos h]
    go_enter Try.func14, Try.ntmps14
    go_wp2
    go_ret
    exact ⟨rfl, rfl⟩
  · rw [if_neg h]
    go_enter Try.func14, Try.ntmps14
    go_wp2
    go_ret
    exact ⟨rfl, rfl⟩
end Go.Proofs.Ytblilnfkpfjclaa

/- Chapter 5's model. -/
namespace Go.Proofs.Ytblilnfkpfjclaa
open Go.RowKit
set_option linter.unusedVariables false

/-- a path that lies at a block's head. -/
theorem pth_head {w : World} {g : Nat} {p : Pth} (h : PthAt w ⟨g, 0, none⟩ p) : w.cell? ⟨g, 0, none⟩ = some (.int .i64 p.id) ∧ w.cell? ⟨g, 1, none⟩ = some (.int .i64 p.kind) ∧ w.cell? ⟨g, 2, none⟩ = some (.int .i64 p.frm) ∧ w.cell? ⟨g, 3, none⟩ = some (.int .i64 p.to) := ⟨h.c0, h.c1, h.c2, h.c3⟩
theorem heap_size_alloc' (w : World) (o : Obj) : (w.alloc o).heap.size = w.heap.size + 1 := by simp
theorem pth_of_block {w : World} {g : Nat} {p : Pth} {T : TypeId} {fr : Nat × Nat} (h : w.heap[g]? = some (.cells #[.int .i64 p.id, .int .i64 p.kind, .int .i64 p.frm, .int .i64 p.to] T fr)) : PthAt w ⟨g, 0, none⟩ p :=
  ⟨by rw [cell_of_row w g 0 _ T fr h]; rfl, by rw [cell_of_row w g _ _ T fr h]; rfl, by rw [cell_of_row w g _ _ T fr h]; rfl, by rw [cell_of_row w g _ _ T fr h]; rfl⟩
theorem boxed_one {w w1 : World} {p : Pth} {T : TypeId} (hb : Below (w.alloc (.cells #[.int .i64 p.id, .int .i64 p.kind, .int .i64 p.frm, .int .i64 p.to] T)).heap.size (w.alloc (.cells #[.int .i64 p.id, .int .i64 p.kind, .int .i64 p.frm, .int .i64 p.to] T)) w1) :
    PthAt w1 ⟨w.heap.size, 0, none⟩ p ∧ w.heap.size + 1 ≤ w1.heap.size ∧ Below w.heap.size w w1 := by
  have hs := hb.size
  rw [heap_size_alloc'] at hs
  exact ⟨pth_of_block ((hb.block _ (by rw [heap_size_alloc']; omega)).trans (heap_alloc_new w _)), hs, ((Below.refl _ _).alloc (Nat.le_refl _) _).trans (hb.mono (by rw [heap_size_alloc']; omega))⟩
theorem boxed_two {w w1 : World} {p q : Pth} {T T2 : TypeId} (hb : Below ((w.alloc (.cells #[.int .i64 p.id, .int .i64 p.kind, .int .i64 p.frm, .int .i64 p.to] T)).alloc (.cells #[.int .i64 q.id, .int .i64 q.kind, .int .i64 q.frm, .int .i64 q.to] T2)).heap.size ((w.alloc (.cells #[.int .i64 p.id, .int .i64 p.kind, .int .i64 p.frm, .int .i64 p.to] T)).alloc (.cells #[.int .i64 q.id, .int .i64 q.kind, .int .i64 q.frm, .int .i64 q.to] T2)) w1) :
    PthAt w1 ⟨w.heap.size, 0, none⟩ p ∧ PthAt w1 ⟨w.heap.size + 1, 0, none⟩ q ∧ w.heap.size + 2 ≤ w1.heap.size ∧ Below w.heap.size w w1 := by
  have hs := hb.size
  rw [heap_size_alloc', heap_size_alloc'] at hs
  obtain ⟨p0, p1, p2, p3⟩ := p
  obtain ⟨q0, q1, q2, q3⟩ := q
  refine ⟨pth_of_block (T := T) (fr := (0, 0)) ((hb.block _ (by rw [heap_size_alloc', heap_size_alloc']; omega)).trans ((Below.heap_alloc _ _ _ (by rw [heap_size_alloc']; omega)).trans (heap_alloc_new w _))), pth_of_block (T := T2) (fr := (0, 0)) ((hb.block _ (by rw [heap_size_alloc', heap_size_alloc']; omega)).trans ?_), hs, (((Below.refl _ _).alloc (Nat.le_refl _) _).alloc (by rw [heap_size_alloc']; omega) _).trans (hb.mono (by rw [heap_size_alloc', heap_size_alloc']; omega))⟩
  have h := heap_alloc_new (w.alloc (.cells #[.int .i64 p0, .int .i64 p1, .int .i64 p2, .int .i64 p3] T)) (.cells #[.int .i64 q0, .int .i64 q1, .int .i64 q2, .int .i64 q3] T2)
  rwa [heap_size_alloc'] at h
end Go.Proofs.Ytblilnfkpfjclaa

/- Regions that draw their order, whose operations read old memory and whose callees make new memory alone: one walk of the text's order. No program. -/
namespace Go.Proofs.Ytblilnfkpfjclaa
open Go.RowKit

/-- a world in which only new memory has been made since w. -/
structure GW (w : World) where
  val : World
  ok : Below w.heap.size w val
instance (w : World) : Nonempty (GW w) := ⟨⟨w, Below.refl _ _⟩⟩
theorem wp_region_grow {P : Program} {id : Nat} {Q : Exit → Act → World → Prop} {a : Act} {w : World} {l : List Oper} (hm : P.follows .mixedOrders = true) (hB : Region.lexB .any l.toArray = true)
    (h : wpQuiet P l.toArray (fun w' => ∃ x : GW w, w' = x.val) (fun a' => ∀ x : GW w, Q .normal a' x.val) l a) : (Code.region id l.toArray true).wp P Q a w := by
  refine wp_region_quiet (C := fun w' => ∃ x : GW w, w' = x.val) hm hB ⟨⟨w.drew, ⟨rfl, rfl, rfl, Nat.le_refl _, fun _ _ => rfl⟩⟩, rfl⟩ ?_
  have e : (fun a' => ∀ w', (∃ x : GW w, w' = x.val) → Q .normal a' w') = (fun a' => ∀ x : GW w, Q .normal a' x.val) := by
    funext a'
    exact propext ⟨fun h x => h _ ⟨x, rfl⟩, fun h w' ⟨x, hx⟩ => hx ▸ h x⟩
  rw [e]
  simpa using h
/-- a callee's contract, met in such a world. -/
theorem calls_gw {P : Program} {f : FuncId} {args : Array Value} {w : World} {v : Value} (x : GW w) (h : Calls P f args x.val fun e w'' => e = .returned v ∧ Below x.val.heap.size x.val w'') :
    Calls P f args x.val fun e w'' => e = .returned v ∧ ∃ y : GW w, w'' = y.val := h.mono fun _ w'' ⟨he, hb⟩ => ⟨he, ⟨w'', x.ok.trans (hb.mono x.ok.size)⟩, rfl⟩
theorem calls_gw_same {P : Program} {f : FuncId} {args : Array Value} {w : World} {v : Value} (x : GW w) (h : Calls P f args x.val fun e w'' => e = .returned v ∧ x.val = w'') :
    Calls P f args x.val fun e w'' => e = .returned v ∧ ∃ y : GW w, w'' = y.val := h.mono fun _ _ ⟨he, hb⟩ => ⟨he, x, hb.symm⟩
end Go.Proofs.Ytblilnfkpfjclaa

/- Chapter 5's model: lists of paths. -/
namespace Go.Proofs.Ytblilnfkpfjclaa
open Go.RowKit
set_option linter.unusedVariables false

theorem spec_FindPath (A : Option Addr) (n c B : Nat) (ps : List Pth) (id : Int) (w : World) (h : PthsAt w B A n ps) (hn : n ≤ 4294967296) :
    Calls Try.prog 118 #[.slice A n c, .int .i64 id] w fun e w' => e = .returned (.int .i64 (findI id ps)) ∧ w = w' := by
  have hl := h.1
  go_enter Try.func118, Try.ntmps118
  go_wp2
  go_loop [5] (fun i => ∃ k : Nat, k ≤ n ∧ i = .int .i64 k ∧ ∀ j q, j < k → ps[j]? = some q → q.id ≠ id) (fun i => n - (intOf i).toNat)
  case atStart => exact ⟨0, Nat.zero_le _, rfl, fun j q hj => absurd hj (by omega)⟩
  case round =>
    obtain ⟨k, hk, rfl, hno⟩ := hrel
    by_cases hlt : k < n
    · obtain ⟨ad, p, rfl, hab, hp, hq⟩ := h.at hlt
      obtain ⟨c0, c1, c2, c3⟩ := hq
      by_cases he : p.id = id
      · have HR : Hid (findI id ps = (k : Int)) := Lib.hid (by unfold findI; rw [findK_some hno hp he])
        have e1 : (p.id == id) = true := by simpa using he
        clear hno he
        go_wp2
        go_ret
        exact ⟨by rw [HR.out]; rfl, rfl⟩
      · have HN : Hid (∀ j q, j < k + 1 → ps[j]? = some q → q.id ≠ id) := Lib.hid (fun j q hj hq => by
          by_cases e : j = k
          · subst e; rw [hp] at hq; cases hq; exact he
          · exact hno j q (by omega) hq)
        have e1 : (p.id == id) = false := by simpa using he
        clear hno he
        go_wp2
        go_round
        case rel => exact ⟨k + 1, by omega, by go_num, HN.out⟩
        case measure => simp [intOf]; omega
    · obtain rfl : k = n := by omega
      have HR : Hid (findI id ps = -1) := Lib.hid (by
        unfold findI
        rw [findK_none (fun j q hq => hno j q (by have := (List.getElem?_eq_some_iff.1 hq).1; omega) hq)])
      clear hno
      go_wp2
      go_ret
      exact ⟨by rw [HR.out]; rfl, rfl⟩
set_option maxHeartbeats 1000000 in
set_option maxRecDepth 100000 in
theorem spec_ArePaths (A : Option Addr) (n c B : Nat) (ps : List Pth) (w : World) (h : PthsAt w B A n ps) (hB : B ≤ w.heap.size) (hn : n ≤ 4294967296) :
    Calls Try.prog 117 #[.slice A n c] w fun e w' => e = .returned (.bool (arePs ps)) ∧ Below w.heap.size w w' := by
  have hl := h.1
  go_enter Try.func117, Try.ntmps117
  go_wp2
  go_loopw [3] (fun i wr => ∃ k : Nat, k ≤ n ∧ i = .int .i64 k ∧ (∀ j, j < k → goodAt ps j = true) ∧ Below w.heap.size w wr) (fun i _ => n - (intOf i).toNat)
  case atStart => exact ⟨0, Nat.zero_le _, rfl, fun j hj => absurd hj (by omega), Below.refl _ _⟩
  case round =>
    obtain ⟨k, hk, rfl, hgo, hbl⟩ := hrel
    have hsz := hbl.size
    by_cases hlt : k < n
    · obtain ⟨ad, p, rfl, hab, hp, hq⟩ := h.at hlt
      replace hq := hq.below hbl (by omega)
      have i1 : (0 : Int) ≤ (k : Int) := by omega
      have i2 : (k : Int) < (n : Int) := by omega
      cases hv : isP p
      · have HR : Hid (arePs ps = false) := Lib.hid (arePs_no (k := k) (by omega) (by unfold goodAt; rw [hp]; simp [hv]))
        have HV := Lib.hid hv
        clear hgo hv
        go_wp2
        have c0 := fun x : GW wr => (hq.below x.ok (by omega)).c0
        have c1 := fun x : GW wr => (hq.below x.ok (by omega)).c1
        have c2 := fun x : GW wr => (hq.below x.ok (by omega)).c2
        have c3 := fun x : GW wr => (hq.below x.ok (by omega)).c3
        have hcc := fun x : GW wr => spec_IsPath p x.val
        rw [HV.out] at hcc
        refine wp_region_grow (by kernel_rfl) (by kernel_rfl) ?_
        repeat (go_big_quiet_step (first | (go_at_call 148; exact calls_gw _ (hcc _))))
        refine wpQuiet_nil ?_
        intro x3
        have hb3 := x3.ok
        generalize x3.val = w3 at *
        go_wp2
        go_ret
        exact ⟨by rw [HR.out]; rfl, hbl.trans (hb3.mono hsz)⟩
      · have HV := Lib.hid hv
        have c0 := fun x : GW wr => (hq.below x.ok (by omega)).c0
        have c1 := fun x : GW wr => (hq.below x.ok (by omega)).c1
        have c2 := fun x : GW wr => (hq.below x.ok (by omega)).c2
        have c3 := fun x : GW wr => (hq.below x.ok (by omega)).c3
        have hcc := fun x : GW wr => spec_IsPath p x.val
        rw [HV.out] at hcc
        by_cases hk0 : k = 0
        · have HG : Hid (∀ j, j < k + 1 → goodAt ps j = true) := Lib.hid (fun j hj => by
            obtain rfl : j = k := by omega
            subst hk0
            unfold goodAt
            rw [hp]
            simp [hv])
          have d0 : decide (0 < k) = false := decide_eq_false (by omega)
          have d1 : decide ((0 : Int) < (k : Int)) = false := decide_eq_false (by omega)
          clear hgo hv hk0
          go_wp2
          refine wp_region_grow (by kernel_rfl) (by kernel_rfl) ?_
          repeat (go_big_quiet_step (first | (go_at_call 148; exact calls_gw _ (hcc _))))
          refine wpQuiet_nil ?_
          intro x3
          have hb3 := x3.ok
          generalize x3.val = w3 at *
          go_wp2
          go_roundw
          case rel => exact ⟨k + 1, by omega, by go_num, HG.out, hbl.trans (hb3.mono hsz)⟩
          case measure => simp [intOf]; omega
        · obtain ⟨m, hm⟩ : ∃ m, m + 1 = k := ⟨k - 1, by omega⟩
          obtain ⟨ad', q, e, hab2, hp2, hq2⟩ := h.at (k := m) (by omega)
          injection e with e
          subst e
          replace hq2 := hq2.below hbl (by omega)
          have d0 : decide (0 < k) = true := decide_eq_true (by omega)
          have d1 : decide ((0 : Int) < (k : Int)) = true := decide_eq_true (by omega)
          have b0 := fun x : GW wr => (hq2.below x.ok (by omega)).c0
          have j1 : (0 : Int) ≤ (m : Int) := by omega
          have j2 : (m : Int) < (n : Int) := by omega
          have w0 : IntKind.i64.wrap ((k : Int) - 1) = (m : Int) := by rw [IntKind.wrap_i64]; omega
          have w1 : wrap64 ((k : Int) - 1) = (m : Int) := by rw [IntWalk.wrap64_in _ (by omega)]; omega
          by_cases hlt2 : q.id < p.id
          · have HG : Hid (∀ j, j < k + 1 → goodAt ps j = true) := Lib.hid (fun j hj => by
              by_cases e : j = k
              · subst e
                unfold goodAt
                rw [hp]
                obtain rfl := hm
                simp [hv, hp2, hlt2]
              · exact hgo j (by omega))
            have e1 : decide (p.id ≤ q.id) = false := decide_eq_false (by omega)
            have e2 : ¬ q.id ≥ p.id := by omega
            clear hgo hv hp hp2 hm
            go_wp2
            refine wp_region_grow (by kernel_rfl) (by kernel_rfl) ?_
            repeat (go_big_quiet_step (first | (go_at_call 148; exact calls_gw _ (hcc _))))
            refine wpQuiet_nil ?_
            intro x3
            have hb3 := x3.ok
            generalize x3.val = w3 at *
            go_wp2
            go_roundw
            case rel => exact ⟨k + 1, by omega, by go_num, HG.out, hbl.trans (hb3.mono hsz)⟩
            case measure => simp [intOf]; omega
          · have HR : Hid (arePs ps = false) := Lib.hid (arePs_no (k := k) (by omega) (by
              unfold goodAt
              rw [hp]
              obtain rfl := hm
              simp [hv, hp2, hlt2]))
            have e1 : decide (p.id ≤ q.id) = true := decide_eq_true (by omega)
            clear hgo hv hp hp2 hm
            go_wp2
            refine wp_region_grow (by kernel_rfl) (by kernel_rfl) ?_
            repeat (go_big_quiet_step (first | (go_at_call 148; exact calls_gw _ (hcc _))))
            refine wpQuiet_nil ?_
            intro x3
            have hb3 := x3.ok
            generalize x3.val = w3 at *
            go_wp2
            go_ret
            exact ⟨by rw [HR.out]; rfl, hbl.trans (hb3.mono hsz)⟩
    · obtain rfl : k = n := by omega
      have HR := Lib.hid (arePs_end (ps := ps) (fun j hj => hgo j (by omega)))
      clear hgo
      go_wp2
      go_ret
      exact ⟨by rw [HR.out, hl]; simp; try omega, hbl⟩
end Go.Proofs.Ytblilnfkpfjclaa

/- Chapter 5's model: conflicts among the paths of a list. -/

namespace Go.Proofs.Ytblilnfkpfjclaa
open Go.RowKit
set_option linter.unusedVariables false

/-- the k-th path. -/
def pAt (ps : List Pth) (k : Nat) : Pth := ps.getD k ⟨0, 0, 0, 0⟩
theorem pAt_some {ps : List Pth} {k : Nat} {p : Pth} (h : ps[k]? = some p) : pAt ps k = p := by simp [pAt, List.getD, h]
/-- how many of the first k paths the i-th one conflicts with. -/
def cntTo (ps : List Pth) (i k : Nat) : Nat := ((ps.take k).filter (fun q => conf (pAt ps i) q)).length
def cntAll (ps : List Pth) : Nat → Nat
  | 0 => 0
  | i + 1 => cntAll ps i + cntTo ps i i
/-- what CountConflicts answers. -/
def countCs (ps : List Pth) : Int := if arePs ps then (cntAll ps ps.length : Int) else 0
theorem cntTo_zero (ps : List Pth) (i : Nat) : cntTo ps i 0 = 0 := by simp [cntTo]
theorem cntTo_yes {ps : List Pth} {i k : Nat} {p q : Pth} (hp : ps[i]? = some p) (hq : ps[k]? = some q) (h : conf p q = true) : cntTo ps i (k + 1) = cntTo ps i k + 1 := by
  unfold cntTo
  rw [List.take_add_one, hq, List.filter_append, pAt_some hp]
  simp [h]
theorem cntTo_no {ps : List Pth} {i k : Nat} {p q : Pth} (hp : ps[i]? = some p) (hq : ps[k]? = some q) (h : conf p q = false) : cntTo ps i (k + 1) = cntTo ps i k := by
  unfold cntTo
  rw [List.take_add_one, hq, List.filter_append, pAt_some hp]
  simp [h]
theorem cntTo_le (ps : List Pth) (i k : Nat) : cntTo ps i k ≤ k := by
  unfold cntTo
  exact Nat.le_trans (List.length_filter_le _ _) (by rw [List.length_take]; omega)
theorem cntAll_le (ps : List Pth) : ∀ i, i ≤ 12 → cntAll ps i ≤ 12 * i
  | 0, _ => Nat.le_refl _
  | i + 1, h => by
    have h1 := cntAll_le ps i (by omega)
    have h2 := cntTo_le ps i i
    show cntAll ps i + cntTo ps i i ≤ _
    omega
theorem arePs_len {ps : List Pth} (h : arePs ps = true) : ps.length ≤ 12 := by
  unfold arePs at h
  simp at h
  exact h.2
/-- the Ids of those of the first i paths that conflict with the k-th. -/
def confTo (ps : List Pth) (k i : Nat) : List Int := ((ps.take i).filter (fun q => conf q (pAt ps k))).map Pth.id
/-- what ConflictsOf answers. -/
def confsOf (ps : List Pth) (id : Int) : List Int := match findK id ps with
  | none => []
  | some k => if arePs ps then confTo ps k ps.length else []
theorem confTo_zero (ps : List Pth) (k : Nat) : confTo ps k 0 = [] := by simp [confTo]
theorem confTo_yes {ps : List Pth} {i k : Nat} {p q : Pth} (hp : ps[i]? = some p) (hq : ps[k]? = some q) (h : conf p q = true) : confTo ps k (i + 1) = confTo ps k i ++ [p.id] := by
  unfold confTo
  rw [List.take_add_one, hp, List.filter_append, pAt_some hq]
  simp [h]
theorem confTo_no {ps : List Pth} {i k : Nat} {p q : Pth} (hp : ps[i]? = some p) (hq : ps[k]? = some q) (h : conf p q = false) : confTo ps k (i + 1) = confTo ps k i := by
  unfold confTo
  rw [List.take_add_one, hp, List.filter_append, pAt_some hq]
  simp [h]
theorem confTo_len (ps : List Pth) (k i : Nat) : (confTo ps k i).length ≤ i := by
  unfold confTo
  rw [List.length_map]
  exact Nat.le_trans (List.length_filter_le _ _) (by rw [List.length_take]; omega)
end Go.Proofs.Ytblilnfkpfjclaa

/- Chapter 5's model: IsTogether. -/
namespace Go.Proofs.Ytblilnfkpfjclaa
open Go.RowKit
set_option linter.unusedVariables false

/-- the path with the k-th Id. -/
def idPth (ps : List Pth) (ids : List Int) (k : Nat) : Pth := pAt ps ((findK (ids.getD k 0) ps).getD 0)
/-- the i-th Id is a path's, is beyond the one before, and its path conflicts with none of those before. -/
def togAt (ps : List Pth) (ids : List Int) (i : Nat) : Bool := (findK (ids.getD i 0) ps).isSome && (i == 0 || decide (ids.getD (i - 1) 0 < ids.getD i 0)) && (List.range i).all (fun k => !conf (idPth ps ids i) (idPth ps ids k))
/-- what IsTogether answers. -/
def isTog (ps : List Pth) (ids : List Int) : Bool := (List.range ids.length).all (togAt ps ids) && arePs ps
theorem isTog_no {ps : List Pth} {ids : List Int} {i : Nat} (hi : i < ids.length) (h : togAt ps ids i = false) : isTog ps ids = false := by
  unfold isTog
  have : (List.range ids.length).all (togAt ps ids) = false := by
    rw [Bool.eq_false_iff]
    intro ha
    have := List.all_eq_true.1 ha i (List.mem_range.2 hi)
    rw [h] at this
    cases this
  rw [this]
  rfl
theorem isTog_end {ps : List Pth} {ids : List Int} (h : ∀ i, i < ids.length → togAt ps ids i = true) : isTog ps ids = arePs ps := by
  unfold isTog
  have : (List.range ids.length).all (togAt ps ids) = true := List.all_eq_true.2 fun k hk => h k (List.mem_range.1 hk)
  rw [this]
  simp
theorem togAt_none {ps : List Pth} {ids : List Int} {i : Nat} (h : findK (ids.getD i 0) ps = none) : togAt ps ids i = false := by unfold togAt; rw [h]; rfl
theorem togAt_low {ps : List Pth} {ids : List Int} {i : Nat} (h0 : i ≠ 0) (h : ¬ ids.getD (i - 1) 0 < ids.getD i 0) : togAt ps ids i = false := by
  unfold togAt
  have e1 : (i == 0) = false := by simpa using h0
  rw [e1, decide_eq_false h]
  simp
theorem togAt_conf {ps : List Pth} {ids : List Int} {i k : Nat} (hk : k < i) (h : conf (idPth ps ids i) (idPth ps ids k) = true) : togAt ps ids i = false := by
  unfold togAt
  have : (List.range i).all (fun k => !conf (idPth ps ids i) (idPth ps ids k)) = false := by
    rw [Bool.eq_false_iff]
    intro ha
    have := List.all_eq_true.1 ha k (List.mem_range.2 hk)
    rw [h] at this
    cases this
  rw [this]
  simp
theorem togAt_yes {ps : List Pth} {ids : List Int} {i m : Nat} (h : findK (ids.getD i 0) ps = some m) (h1 : i = 0 ∨ ids.getD (i - 1) 0 < ids.getD i 0) (h2 : ∀ k, k < i → conf (idPth ps ids i) (idPth ps ids k) = false) : togAt ps ids i = true := by
  unfold togAt
  have : (List.range i).all (fun k => !conf (idPth ps ids i) (idPth ps ids k)) = true := List.all_eq_true.2 fun k hk => by rw [h2 k (List.mem_range.1 hk)]; rfl
  rw [this, h]
  rcases h1 with rfl | h1
  · rfl
  · rw [decide_eq_true h1]; simp
theorem togAt_some {ps : List Pth} {ids : List Int} {i : Nat} (h : togAt ps ids i = true) : ∃ m p, findK (ids.getD i 0) ps = some m ∧ ps[m]? = some p ∧ idPth ps ids i = p := by
  unfold togAt at h
  cases e : findK (ids.getD i 0) ps with
  | none => rw [e] at h; simp at h
  | some m =>
    obtain ⟨p, hp, _, _⟩ := findK_at e
    exact ⟨m, p, rfl, hp, by unfold idPth; rw [e]; exact pAt_some hp⟩
end Go.Proofs.Ytblilnfkpfjclaa

/- Chapter 6's model: ascending lists of numbers. -/
namespace Go.Proofs.Ytblilnfkpfjclaa
open Go.RowKit
set_option linter.unusedVariables false

/-- 'append(v, x...)' at a step of a region that draws its order. -/
theorem step_app {P : Program} {w : World} {ops : Array Oper} {o : Oper} {a : Act} {K : Act → World → Prop} {Q : Exit → Act → World → Prop} {F : Prop} (hgd : o.guard = none) (s x : Operand) (t : TypeId)
    (ho : o.op = .call { callee := .builtin .append, args := #[s, x], argTypes := #[t, t] })
    (k : IntKind) (E : TypeId) (bytes : Nat) (ht : P.underlying t = some (.slice E)) (hi : (P.info? E).map (fun i => (i.zero, i.size, i.bytes)) = some (some (.int k 0), 1, bytes))
    (lo : Nat) (v : Value) (xs : List Int) (hs : a.eval s = v) (hown : Own k E w lo v xs)
    (A : Option Addr) (m c B : Nat) (zs : List Int) (hx : a.eval x = .slice A m c) (hsrc : IntsAt k w B A m zs) (hnil : A = none → m = 0 ∧ c = 0) (hb : bytes ≤ 8)
    (hbytes : xs.length + m ≤ 4398046511104) (hlo : lo ≤ w.heap.size)
    (h : ∀ v' w', Own k E w' lo v' (xs ++ zs) → w.grownBy w' v.ownBlock → K (a.put o.dst v') w') :
    if Region.wanted o (yielded ops a.tmps) = true then Oper.wp P o a w K Q else F := by
  rw [if_pos (by simp [Region.wanted, hgd])]
  obtain ⟨i, hi1, hz, hsz, hby⟩ := info_parts hi
  have hzs := hsrc.1
  obtain ⟨Av, cv, hv⟩ := hown.sliced
  cases A with
  | none =>
    obtain ⟨rfl, rfl⟩ := hnil rfl
    have hz0 : zs = [] := List.eq_nil_of_length_eq_zero hzs
    subst hz0
    have hrun := run_append_owned_none (P := P) (w := w) lo t o.type E i 1 ht hi1 v xs.length _ hown
    have hrun2 := (run_append_types ht ht o.type Av xs.length cv (.slice none 0 0) w).trans (hv ▸ hrun)
    unfold Oper.wp
    simp [execOp, ho, resolve, invoke, builtin, hs, hx, hv, hrun2, Result.andThen]
    exact hv ▸ h v w (by rw [List.append_nil]; exact hown) (World.grownBy.refl _ _)
  | some ad =>
    obtain ⟨v', w', hr, h2, h3, h4, h5⟩ := run_append_own_at (P := P) w lo t o.type E i (.int k 0) 1 bytes ht hi1 hz hsz hby rfl (by omega) v xs.length _ hown ad m c (zs.map (Value.int k)) (by simp [hzs]) (ints_news hsrc) (ints_one k zs)
      (by unfold maxLen; omega) (by have : (xs.length + m) * bytes ≤ (xs.length + m) * 8 := Nat.mul_le_mul_left _ hb; omega) hlo
    have hrun2 := (run_append_types ht ht o.type Av xs.length cv (.slice (some ad) m c) w).trans (hv ▸ hr)
    unfold Oper.wp execOp
    simp only [ho, resolve, invoke, builtin, Sem.run_bind, Sem.run_pure, Result.andThen_ok, List.map_toArray, List.map_cons, List.map_nil, hs, hx, hv, hrun2]
    refine h v' w' ?_ h3
    unfold Own
    rw [List.length_append, List.map_append, hzs]
    exact h2
/-- 'append(v, x)', one number, at such a step. -/
theorem step_one {P : Program} {w : World} {ops : Array Oper} {o : Oper} {a : Act} {K : Act → World → Prop} {Q : Exit → Act → World → Prop} {F : Prop} (hgd : o.guard = none) (s x : Operand) (t : TypeId)
    (ho : o.op = .call { callee := .builtin .append, args := #[s, x], argTypes := #[t, t] })
    (k : IntKind) (E : TypeId) (bytes : Nat) (ht : P.underlying t = some (.slice E)) (hi : (P.info? E).map (fun i => (i.zero, i.size, i.bytes)) = some (some (.int k 0), 1, bytes))
    (lo : Nat) (v : Value) (xs : List Int) (hs : a.eval s = v) (hown : Own k E w lo v xs) (hb : bytes ≤ 8) (hbytes : xs.length < 4398046511104)
    (z : Int) (H : Nat) (hlo : lo ≤ w.heap.size) (hx : a.eval x = .slice (some ⟨H, 0, none⟩) 1 1) (hc : w.cell? ⟨H, 0, none⟩ = some (.int k z))
    (h : ∀ v' w', Own k E w' lo v' (xs ++ [z]) → w.grownBy w' v.ownBlock → K (a.put o.dst v') w') :
    if Region.wanted o (yielded ops a.tmps) = true then Oper.wp P o a w K Q else F :=
  step_app hgd s x t ho k E bytes ht hi lo v xs hs hown (some ⟨H, 0, none⟩) 1 1 (H + 1) [z] hx ⟨rfl, fun _ => ⟨_, rfl, by simp, fun j hj => by
    obtain rfl : j = 0 := by omega
    rw [add_head]
    exact hc⟩⟩ (by simp) hb (by omega) hlo h
/-- how many numbers at the head are below n. -/
def lowN (zs : List Int) (n : Int) : Nat := (zs.takeWhile (fun z => decide (z < n))).length
/-- a number put into an ascending list. -/
def putI (zs : List Int) (n : Int) : List Int := if zs[lowN zs n]? = some n then zs else zs.take (lowN zs n) ++ n :: zs.drop (lowN zs n)
theorem lowN_at : ∀ {zs : List Int} {n : Int} {k : Nat}, k ≤ zs.length → (∀ i, i < k → zs.getD i 0 < n) → (k < zs.length → ¬ zs.getD k 0 < n) → lowN zs n = k
  | [], n, k, hk, _, _ => by
    have : k = 0 := by simpa using hk
    subst this
    rfl
  | z :: zs, n, 0, _, _, h => by
    have := h (by simp)
    simp at this
    unfold lowN
    simp [List.takeWhile, show decide (z < n) = false from decide_eq_false (by omega)]
  | z :: zs, n, k + 1, hk, h, h2 => by
    have h0 := h 0 (by omega)
    simp at h0
    have ih := lowN_at (zs := zs) (n := n) (k := k) (by simpa using hk) (fun i hi => by simpa using h (i + 1) (by omega)) (fun hk => by simpa using h2 (by simpa using hk))
    unfold lowN at ih ⊢
    simp [List.takeWhile, show decide (z < n) = true from decide_eq_true h0, ih]
/-- what has says. -/
def hasI (zs : List Int) (n : Int) : Bool := zs.contains n
theorem hasI_no {zs : List Int} {n : Int} (h : ∀ i, i < zs.length → zs.getD i 0 ≠ n) : hasI zs n = false := by
  unfold hasI
  rw [Bool.eq_false_iff]
  intro hc
  obtain ⟨i, hi, e⟩ := List.getElem_of_mem (List.contains_iff_mem.1 hc)
  exact h i hi (by rw [List.getD_eq_getElem?_getD, List.getElem?_eq_getElem hi]; exact e)
theorem hasI_yes {zs : List Int} {n : Int} {i : Nat} (hi : i < zs.length) (h : zs.getD i 0 = n) : hasI zs n = true := by
  unfold hasI
  refine List.contains_iff_mem.2 ?_
  rw [← h, List.getD_eq_getElem?_getD, List.getElem?_eq_getElem hi]
  exact List.getElem_mem hi
/-- a block of one number that an append has left alone. -/
theorem grown_cell {W w3 : World} {row : Option Nat} (hg : W.grownBy w3 row) {H : Nat} {x : Int} {T : TypeId} (h : W.heap[H]? = some (.cells #[.int .i64 x] T (0, 0))) (hne : row ≠ some H) : w3.cell? ⟨H, 0, none⟩ = some (.int .i64 x) := by
  rw [cell_of_row w3 H 0 #[.int .i64 x] T (0, 0) ((hg.block H (lt_of_block h) (fun e => hne e.symm)).trans h)]
  rfl
/-- an empty row of the call's own. -/
theorem own_hollow {k : IntKind} {E : TypeId} {W : World} {lo g : Nat} (h : W.heap[g]? = some (.cells #[] E (0, 0))) (hl : lo ≤ g) : Own k E W lo (.slice (some ⟨g, 0, none⟩) 0 0) [] :=
  ⟨rfl, .inr ⟨g, 0, #[], rfl, hl, h, Nat.le_refl _, by decide, rfl, rfl⟩⟩
/-- the head of a list of numbers. -/
theorem IntsAt.head {k : IntKind} {w : World} {B : Nat} {A : Option Addr} {n : Nat} {zs : List Int} (h : IntsAt k w B A n zs) (m : Nat) (hm : m ≤ n) : IntsAt k w B A m (zs.take m) := by
  refine ⟨by rw [List.length_take, h.1]; omega, fun h0 => ?_⟩
  obtain ⟨ad, e, hb, hc⟩ := h.2 (by omega)
  refine ⟨ad, e, hb, fun j hj => ?_⟩
  rw [hc j (by omega), List.getD_eq_getElem?_getD, List.getD_eq_getElem?_getD, List.getElem?_take, if_pos hj]
/-- its tail. -/
theorem IntsAt.tail {k : IntKind} {w : World} {B : Nat} {ad : Addr} {n : Nat} {zs : List Int} (h : IntsAt k w B (some ad) n zs) (m : Nat) (hm : m ≤ n) : IntsAt k w B (some (ad.add m)) (n - m) (zs.drop m) := by
  refine ⟨by rw [List.length_drop, h.1], fun h0 => ?_⟩
  obtain ⟨a2, e, hb, hc⟩ := h.2 (by omega)
  injection e with e
  subst e
  refine ⟨_, rfl, by rw [add_block]; exact hb, fun j hj => ?_⟩
  rw [add_add, hc (m + j) (by omega), List.getD_eq_getElem?_getD, List.getD_eq_getElem?_getD, List.getElem?_drop]
theorem IntsAt.laid {k : IntKind} {w W : World} {B : Nat} {A : Option Addr} {n : Nat} {zs : List Int} (h : IntsAt k w B A n zs) (hB : B ≤ w.heap.size) (hb : Below w.heap.size w W) : IntsAt k W B A n zs := h.keep fun _ hp => hb.cell (by omega)
theorem alloc_heap (w : World) (o : Obj) : (w.alloc o).heap = w.heap.push o := rfl
theorem drew_heap (w : World) : w.drew.heap = w.heap := rfl
theorem spec_l6Has (A : Option Addr) (n c B : Nat) (zs : List Int) (x : Int) (w : World) (h : IntsAt .i64 w B A n zs) (hn : n ≤ 4294967296) :
    Calls Try.prog 106 #[.slice A n c, .int .i64 x] w fun e w' => e = .returned (.bool (hasI zs x)) ∧ w = w' := by
  have hl := h.1
  go_enter Try.func106, Try.ntmps106
  go_wp2
  go_loop [5] (fun i => ∃ k : Nat, k ≤ n ∧ i = .int .i64 k ∧ ∀ j, j < k → zs.getD j 0 ≠ x) (fun i => n - (intOf i).toNat)
  case atStart => exact ⟨0, Nat.zero_le _, rfl, fun j hj => absurd hj (by omega)⟩
  case round =>
    obtain ⟨k, hk, rfl, hno⟩ := hrel
    by_cases hlt : k < n
    · obtain ⟨ad, rfl, hab, hcell⟩ := h.2 (by omega)
      have hc := hcell k hlt
      have HN := Lib.hid hno
      clear hno hcell
      by_cases he : zs.getD k 0 = x
      · have HR : Hid (hasI zs x = true) := Lib.hid (hasI_yes (by omega) he)
        rw [he] at hc
        clear he
        go_wp2
        go_ret
        exact ⟨by rw [HR.out]; rfl, rfl⟩
      · have HS : Hid (∀ j, j < k + 1 → zs.getD j 0 ≠ x) := Lib.hid (fun j hj => by
          by_cases e : j = k
          · subst e; exact he
          · exact HN.out j (by omega))
        generalize zs.getD k 0 = z at *
        have e1 : (z == x) = false := by simpa using he
        clear he
        go_wp2
        go_round
        case rel => exact ⟨k + 1, by omega, by go_num, HS.out⟩
        case measure => simp [intOf]; omega
    · obtain rfl : k = n := by omega
      have HR : Hid (hasI zs x = false) := Lib.hid (hasI_no (fun i hi => hno i (by omega)))
      clear hno
      go_wp2
      go_ret
      exact ⟨by rw [HR.out]; rfl, rfl⟩
set_option maxHeartbeats 1000000 in
theorem spec_l6Put (A : Option Addr) (n c B : Nat) (zs : List Int) (x : Int) (w : World) (h : IntsAt .i64 w B A n zs) (hB : B ≤ w.heap.size) (hn : n ≤ 4294967296) (hc : n ≤ c) (hnil : A = none → n = 0 ∧ c = 0) :
    Calls Try.prog 75 #[.slice A n c, .int .i64 x] w fun e w' => ∃ v, e = .returned v ∧ Own .i64 3 w' w.heap.size v (putI zs x) ∧ Below w.heap.size w w' := by
  have hl := h.1
  have own0 := own_bare .i64 3 w
  go_enter Try.func75, Try.ntmps75
  go_wp2
  go_loop [5] (fun i => ∃ k : Nat, k ≤ n ∧ i = .int .i64 k ∧ ∀ j, j < k → zs.getD j 0 < x) (fun i => n - (intOf i).toNat)
  case atStart => exact ⟨0, Nat.zero_le _, rfl, fun j hj => absurd hj (by omega)⟩
  case round =>
    obtain ⟨k, hk, rfl, hno⟩ := hrel
    by_cases hlt : k < n
    · obtain ⟨ad, rfl, hab, hcell⟩ := h.2 (by omega)
      have hck := hcell k hlt
      have HN := Lib.hid hno
      clear hno hcell
      generalize hz : zs.getD k 0 = z at *
      have HZ := Lib.hid hz
      clear hz
      by_cases he : z < x
      · have e1 : decide (z < x) = true := decide_eq_true he
        go_wp2
        go_round
        case rel => exact ⟨k + 1, by omega, by go_num, fun j hj => by
          by_cases e : j = k
          · subst e; rw [HZ.out]; exact he
          · exact HN.out j (by omega)⟩
        case measure => simp [intOf]; omega
      · have HL : Hid (lowN zs x = k) := Lib.hid (lowN_at (by omega) HN.out (fun _ => by rw [HZ.out]; exact he))
        have hg : zs[k]? = some z := by
          rw [← HZ.out, List.getD_eq_getElem?_getD, List.getElem?_eq_getElem (by omega)]; rfl
        have e1 : decide (z < x) = false := decide_eq_false he
        by_cases he2 : z = x
        · have HR : Hid (putI zs x = [] ++ zs) := Lib.hid (by unfold putI; rw [HL.out, hg, he2]; simp)
          have e2 : (z == x) = true := by simpa using he2
          clear hg he2 he
          go_wp2_with (at_builtin; refine wpList_app rfl _ _ 42 42 rfl .i64 3 3 8 Try.underlying42 Try.underlying42 info_i64 w.heap.size _ [] rfl own0 (some ad) n c B zs rfl (h.keep fun p hp => World.cell?_of_block (Below.heap_alloc w _ _ (by omega))) (by simp) (by decide) (by simp; omega) (by simp) ?_; intro v1 w1 hown1 hgrow1 hat1; have hb1 := own0.push (Nat.le_refl _) ((Below.refl _ _).alloc (Nat.le_refl _) _) (by simp) hgrow1; clear hgrow1 hat1)
          go_ret
          exact ⟨_, rfl, by rw [HR.out]; exact hown1, hb1⟩
        · have HR : Hid (putI zs x = [] ++ zs.take k ++ [x] ++ zs.drop k) := Lib.hid (by unfold putI; rw [HL.out, hg, if_neg (by simpa using he2)]; simp)
          have e2 : (z == x) = false := by simpa using he2
          clear hg he2 he
          have i1 : (0 : Int) ≤ (k : Int) := by omega
          have i2 : (k : Int) ≤ (n : Int) := by omega
          have i3 : (k : Int) ≤ (c : Int) := by omega
          go_wp2_with fail
          have nck : ¬ c = k := by omega
          have hk1 := fun W hW => (h.head k (by omega)).laid (W := W) hB hW
          have hk2 := fun W hW => (h.tail k (by omega)).laid (W := W) hB hW
          have hlt1 : (zs.take k).length = k := by rw [List.length_take]; omega
          go_region_held3 (fun _ => True) (trivial) (first
            | (refine step_app rfl _ _ 42 rfl .i64 3 8 Try.underlying42 info_i64 w.heap.size _ [] rfl (own_hollow (by (simp only [alloc_heap, drew_heap, Array.getElem?_push, Array.size_push]; (repeat first | rw [if_neg (by omega)] | rw [if_pos (by omega)]))) (by (first | omega | (simp only [alloc_heap, drew_heap, Array.size_push]; omega)))) (some ad) k c B (zs.take k) rfl (hk1 _ (by exact ⟨rfl, rfl, rfl, by (first | omega | (simp only [alloc_heap, drew_heap, Array.size_push]; omega)), fun i hi => by (simp only [alloc_heap, drew_heap, Array.getElem?_push, Array.size_push]; (repeat first | rw [if_neg (by omega)] | rw [if_pos (by omega)]))⟩)) (by simp) (by decide) (by simp only [List.length_nil]; omega) (by (first | omega | (simp only [alloc_heap, drew_heap, Array.size_push]; omega))) ?_; intro v3 w3 hown3 hgrow3; have hb3 : Below w.heap.size w w3 := Below.grown (by exact ⟨rfl, rfl, rfl, by (first | omega | (simp only [alloc_heap, drew_heap, Array.size_push]; omega)), fun i hi => by (simp only [alloc_heap, drew_heap, Array.getElem?_push, Array.size_push]; (repeat first | rw [if_neg (by omega)] | rw [if_pos (by omega)]))⟩) hgrow3 (by (first | omega | (simp only [alloc_heap, drew_heap, Array.size_push]; omega))) (fun g' e' => by cases e'; (first | omega | (simp only [alloc_heap, drew_heap, Array.size_push]; omega))))
            | (refine step_one rfl _ _ 42 rfl .i64 3 8 Try.underlying42 info_i64 w.heap.size _ ([] ++ zs.take k) rfl (by first | exact hown3 | exact hown3.alloc _) (by decide) (by simp only [List.nil_append, hlt1]; omega) x _ (by have := hb3.size; (first | omega | (simp only [alloc_heap, drew_heap, Array.size_push]; omega))) rfl (by first | (exact (cell_of_row _ _ 0 _ _ _ (heap_alloc_new w3 _)).trans rfl) | (refine grown_cell hgrow3 (by (simp only [alloc_heap, drew_heap, Array.getElem?_push, Array.size_push]; (repeat first | rw [if_neg (by omega)] | rw [if_pos (by omega)]))) (fun e => ?_); have he := Option.some.inj e; first | omega | (simp only [alloc_heap, drew_heap, Array.size_push] at he; omega))) ?_; intro v4 w4 hown4 hgrow4; have hb4 : Below w.heap.size w w4 := hown3.push (Nat.le_refl _) (by first | exact hb3 | exact hb3.alloc hb3.size _) (by have := hb3.size; (first | omega | (simp only [alloc_heap, drew_heap, Array.size_push]; omega))) hgrow4)
            | (refine step_app rfl _ _ 42 rfl .i64 3 8 Try.underlying42 info_i64 w.heap.size _ _ rfl hown4 (some (ad.add k)) _ _ B (zs.drop k) rfl (hk2 _ hb4) (by simp) (by decide) (by simp only [List.length_append, List.nil_append, hlt1, List.length_singleton]; omega) hb4.size ?_; intro v5 w5 hown5 hgrow5; have hb5 : Below w.heap.size w w5 := hown4.push (Nat.le_refl _) hb4 hb4.size hgrow5)
            | fail "arm")
          all_goals
            go_wp2
            go_ret
            exact ⟨_, rfl, by rw [HR.out]; exact hown5, hb5⟩
    · obtain rfl : k = n := by omega
      have HR : Hid (putI zs x = [] ++ zs.take k ++ [x] ++ []) := Lib.hid (by
        unfold putI
        rw [lowN_at (k := k) (by omega) (fun i hi => hno i (by omega)) (fun h => absurd h (by omega)), List.getElem?_eq_none (by omega), if_neg (by simp), List.drop_of_length_le (by omega)]
        simp)
      have hk1 := fun W hW => (h.head k (by omega)).laid (W := W) hB hW
      have hl1 : (zs.take k).length = k := by rw [List.length_take]; omega
      have hk2 : ∀ (W : World) (A' : Option Addr), IntsAt .i64 W B A' 0 [] := fun W A' => ⟨rfl, fun h => absurd h (by omega)⟩
      generalize zs.take k = l at *
      clear hno h hl hlt hk own0
      have hcs : (A = none ∧ k = 0 ∧ c = 0) ∨ (∃ ad, A = some ad ∧ c = k) ∨ (∃ ad, A = some ad ∧ ¬ c = k) := by
        cases A with
        | none => exact .inl ⟨rfl, hnil rfl⟩
        | some ad => by_cases e : c = k
                     · exact .inr (.inl ⟨ad, rfl, e⟩)
                     · exact .inr (.inr ⟨ad, rfl, e⟩)
      rcases hcs with ⟨rfl, rfl, rfl⟩ | ⟨ad, rfl, rfl⟩ | ⟨ad, rfl, nck⟩
      all_goals
        go_wp2_with fail
        go_region_held3 (fun _ => True) (trivial) (first
          | (refine step_app rfl _ _ 42 rfl .i64 3 8 Try.underlying42 info_i64 w.heap.size _ [] rfl (own_hollow (by (simp only [alloc_heap, drew_heap, Array.getElem?_push, Array.size_push]; (repeat first | rw [if_neg (by omega)] | rw [if_pos (by omega)]))) (by (first | omega | (simp only [alloc_heap, drew_heap, Array.size_push]; omega)))) _ _ _ B l rfl (hk1 _ (by exact ⟨rfl, rfl, rfl, by (first | omega | (simp only [alloc_heap, drew_heap, Array.size_push]; omega)), fun i hi => by (simp only [alloc_heap, drew_heap, Array.getElem?_push, Array.size_push]; (repeat first | rw [if_neg (by omega)] | rw [if_pos (by omega)]))⟩)) (by simp) (by decide) (by simp only [List.length_nil]; omega) (by (first | omega | (simp only [alloc_heap, drew_heap, Array.size_push]; omega))) ?_; intro v3 w3 hown3 hgrow3; have hb3 : Below w.heap.size w w3 := Below.grown (by exact ⟨rfl, rfl, rfl, by (first | omega | (simp only [alloc_heap, drew_heap, Array.size_push]; omega)), fun i hi => by (simp only [alloc_heap, drew_heap, Array.getElem?_push, Array.size_push]; (repeat first | rw [if_neg (by omega)] | rw [if_pos (by omega)]))⟩) hgrow3 (by (first | omega | (simp only [alloc_heap, drew_heap, Array.size_push]; omega))) (fun g' e' => by cases e'; (first | omega | (simp only [alloc_heap, drew_heap, Array.size_push]; omega))))
          | (refine step_one rfl _ _ 42 rfl .i64 3 8 Try.underlying42 info_i64 w.heap.size _ ([] ++ l) rfl (by first | exact hown3 | exact hown3.alloc _) (by decide) (by simp only [List.nil_append]; omega) x _ (by have := hb3.size; (first | omega | (simp only [alloc_heap, drew_heap, Array.size_push]; omega))) rfl (by first | (exact (cell_of_row _ _ 0 _ _ _ (heap_alloc_new w3 _)).trans rfl) | (refine grown_cell hgrow3 (by (simp only [alloc_heap, drew_heap, Array.getElem?_push, Array.size_push]; (repeat first | rw [if_neg (by omega)] | rw [if_pos (by omega)]))) (fun e => ?_); have he := Option.some.inj e; first | omega | (simp only [alloc_heap, drew_heap, Array.size_push] at he; omega))) ?_; intro v4 w4 hown4 hgrow4; have hb4 : Below w.heap.size w w4 := hown3.push (Nat.le_refl _) (by first | exact hb3 | exact hb3.alloc hb3.size _) (by have := hb3.size; (first | omega | (simp only [alloc_heap, drew_heap, Array.size_push]; omega))) hgrow4)
          | (refine step_app rfl _ _ 42 rfl .i64 3 8 Try.underlying42 info_i64 w.heap.size _ _ rfl hown4 _ _ _ B [] rfl (hk2 _ _) (by simp) (by decide) (by simp only [List.length_append, List.nil_append, List.length_singleton]; omega) hb4.size ?_; intro v5 w5 hown5 hgrow5; have hb5 : Below w.heap.size w w5 := hown4.push (Nat.le_refl _) hb4 hb4.size hgrow5)
          | fail "arm")
        all_goals
          go_wp2
          go_ret
          exact ⟨_, rfl, by rw [HR.out]; exact hown5, hb5⟩
end Go.Proofs.Ytblilnfkpfjclaa

/- Chapter 6's model: full stages. -/
namespace Go.Proofs.Ytblilnfkpfjclaa
open Go.RowKit
set_option linter.unusedVariables false

theorem putI_length (zs : List Int) (n : Int) : (putI zs n).length ≤ zs.length + 1 := by
  unfold putI
  split
  · omega
  · rw [List.length_append, List.length_cons, List.length_take, List.length_drop]
    omega
/-- the i-th path is in the stage, or may not be put into it. -/
def fullAt (ps : List Pth) (zs : List Int) (i : Nat) : Bool := hasI zs (pAt ps i).id || !isTog ps (putI zs (pAt ps i).id)
/-- what IsFullStage answers. -/
def isFull (ps : List Pth) (zs : List Int) : Bool := (List.range ps.length).all (fullAt ps zs) && isTog ps zs
theorem isFull_no {ps : List Pth} {zs : List Int} {i : Nat} (hi : i < ps.length) (h : fullAt ps zs i = false) : isFull ps zs = false := by
  unfold isFull
  have : (List.range ps.length).all (fullAt ps zs) = false := by
    rw [Bool.eq_false_iff]
    intro ha
    have := List.all_eq_true.1 ha i (List.mem_range.2 hi)
    rw [h] at this
    cases this
  rw [this]
  rfl
theorem isFull_end {ps : List Pth} {zs : List Int} (h : ∀ i, i < ps.length → fullAt ps zs i = true) : isFull ps zs = isTog ps zs := by
  unfold isFull
  have : (List.range ps.length).all (fullAt ps zs) = true := List.all_eq_true.2 fun k hk => h k (List.mem_range.1 hk)
  rw [this]
  simp
/-- the first k paths tried one by one. -/
def addTo (ps : List Pth) (zs : List Int) : Nat → List Int
  | 0 => zs
  | k + 1 => if isTog ps (putI (addTo ps zs k) (pAt ps k).id) then putI (addTo ps zs k) (pAt ps k).id else addTo ps zs k
/-- what AddToStage answers. -/
def addS (ps : List Pth) (zs : List Int) : List Int := if isTog ps zs then addTo ps zs ps.length else zs
theorem addTo_length (ps : List Pth) (zs : List Int) : ∀ k, (addTo ps zs k).length ≤ zs.length + k
  | 0 => Nat.le_refl _
  | k + 1 => by
    have ih := addTo_length ps zs k
    have h := putI_length (addTo ps zs k) (pAt ps k).id
    unfold addTo
    split <;> omega
end Go.Proofs.Ytblilnfkpfjclaa

/- Chapter 6's model: lists of stages, read. -/
namespace Go.Proofs.Ytblilnfkpfjclaa
open Go.RowKit
set_option linter.unusedVariables false

/-- A slice of slices of numbers, all in blocks below B. -/
def SSAt (w : World) (B : Nat) (A : Option Addr) (n : Nat) (zss : List (List Int)) : Prop :=
  zss.length = n ∧ (0 < n → ∃ ad, A = some ad ∧ ad.block < B ∧ ∀ j, j < n → ∃ A' m c, w.cell? (ad.add j) = some (.slice A' m c) ∧ IntsAt .i64 w B A' m (zss.getD j []) ∧ m ≤ c ∧ (A' = none → m = 0 ∧ c = 0))
theorem SSAt.at {w : World} {B : Nat} {A : Option Addr} {n : Nat} {zss : List (List Int)} (h : SSAt w B A n zss) {j : Nat} (hj : j < n) :
    ∃ ad A' m c, A = some ad ∧ (ad.add j).block < B ∧ w.cell? (ad.add j) = some (.slice A' m c) ∧ IntsAt .i64 w B A' m (zss.getD j []) ∧ m ≤ c ∧ (A' = none → m = 0 ∧ c = 0) := by
  obtain ⟨ad, e, hb, hc⟩ := h.2 (by omega)
  obtain ⟨A', m, c, h1, h2, h3, h4⟩ := hc j hj
  exact ⟨ad, A', m, c, e, by rw [add_block]; exact hb, h1, h2, h3, h4⟩
/-- a path is in one of the stages. -/
def inSome (zss : List (List Int)) (id : Int) : Bool := zss.any (fun zs => hasI zs id)
/-- what Covers answers. -/
def coversP (ps : List Pth) (zss : List (List Int)) : Bool := zss.all (isTog ps) && (List.range ps.length).all (fun i => inSome zss (pAt ps i).id) && arePs ps
theorem covers_tog {ps : List Pth} {zss : List (List Int)} {j : Nat} (hj : j < zss.length) (h : isTog ps (zss.getD j []) = false) : coversP ps zss = false := by
  unfold coversP
  have : zss.all (isTog ps) = false := by
    rw [Bool.eq_false_iff]
    intro ha
    have := List.all_eq_true.1 ha (zss.getD j []) (by rw [List.getD_eq_getElem?_getD, List.getElem?_eq_getElem hj]; exact List.getElem_mem hj)
    rw [h] at this
    cases this
  rw [this]
  rfl
theorem covers_out {ps : List Pth} {zss : List (List Int)} {j : Nat} (hj : j < ps.length) (h : inSome zss (pAt ps j).id = false) : coversP ps zss = false := by
  unfold coversP
  have : (List.range ps.length).all (fun i => inSome zss (pAt ps i).id) = false := by
    rw [Bool.eq_false_iff]
    intro ha
    have := List.all_eq_true.1 ha j (List.mem_range.2 hj)
    rw [h] at this
    cases this
  rw [this]
  simp
theorem covers_end {ps : List Pth} {zss : List (List Int)} (h1 : ∀ j, j < zss.length → isTog ps (zss.getD j []) = true) (h2 : ∀ i, i < ps.length → inSome zss (pAt ps i).id = true) : coversP ps zss = arePs ps := by
  unfold coversP
  have a : zss.all (isTog ps) = true := List.all_eq_true.2 fun zs hz => by
    obtain ⟨j, hj, e⟩ := List.getElem_of_mem hz
    have := h1 j hj
    rw [List.getD_eq_getElem?_getD, List.getElem?_eq_getElem hj] at this
    rw [← e]
    exact this
  have b : (List.range ps.length).all (fun i => inSome zss (pAt ps i).id) = true := List.all_eq_true.2 fun k hk => h2 k (List.mem_range.1 hk)
  rw [a, b]
  simp
theorem inSome_take {zss : List (List Int)} {k : Nat} (id : Int) (hk : k < zss.length) : inSome (zss.take (k + 1)) id = (inSome (zss.take k) id || hasI (zss.getD k []) id) := by
  unfold inSome
  rw [List.take_add_one, List.any_append, List.getElem?_eq_getElem hk, List.getD_eq_getElem?_getD, List.getElem?_eq_getElem hk]
  simp
end Go.Proofs.Ytblilnfkpfjclaa

/- Slices of slices of numbers of a call's own. -/
namespace Go.Proofs.Ytblilnfkpfjclaa
open Go.RowKit
set_option linter.unusedVariables false

theorem info_ints : (Try.prog.info? 42).map (fun i => (i.zero, i.size, i.bytes)) = some (some (.slice none 0 0), 1, 24) := by kernel_rfl
/-- v is a slice of the call's own (a block from lo on), of slices of the call's own. -/
def OwnSS (w : World) (lo : Nat) (v : Value) (zss : List (List Int)) : Prop :=
  ∃ vs : List Value, w.ownsRow lo 42 1 v zss.length vs ∧ ∀ j, j < zss.length → ∃ u, vs[j]? = some u ∧ Own .i64 3 w lo u (zss.getD j [])
/-- rows of other types lie in other blocks. -/
theorem own_apart {w : World} {lo lo2 : Nat} {u v : Value} {zs : List Int} {n : Nat} {vs : List Value} (h : Own .i64 3 w lo u zs) (h2 : w.ownsRow lo2 42 1 v n vs) : ∀ g, u.ownBlock = some g → v.ownBlock ≠ some g := by
  intro g hg e
  rcases h.2 with ⟨rfl, _⟩ | ⟨g1, cap, cur, rfl, hb, hg1, r⟩
  · cases hg
  · rcases h2.2 with ⟨rfl, _⟩ | ⟨g2, cap2, cur2, rfl, hb2, hg2, r2⟩
    · cases e
    · have e1 : g1 = g := Option.some.inj hg
      have e2 : g2 = g := Option.some.inj e
      subst e1
      subst e2
      rw [hg1] at hg2
      injection hg2 with hg2
      injection hg2 with _ ht
      exact absurd ht (by decide)
theorem OwnSS.apart {w : World} {lo lo2 : Nat} {u v : Value} {zs : List Int} {zss : List (List Int)} (h : OwnSS w lo2 v zss) (h2 : Own .i64 3 w lo u zs) : ∀ g, u.ownBlock = some g → v.ownBlock ≠ some g := by
  obtain ⟨vs, hr, _⟩ := h
  exact own_apart h2 hr
theorem OwnSS.mono {w : World} {lo lo' : Nat} {v : Value} {zss : List (List Int)} (h : OwnSS w lo v zss) (hl : lo' ≤ lo) : OwnSS w lo' v zss := by
  obtain ⟨vs, hr, hi⟩ := h
  refine ⟨vs, ownr_mono hr hl, fun j hj => ?_⟩
  obtain ⟨u, h1, h2⟩ := hi j hj
  exact ⟨u, h1, h2.mono hl⟩
theorem OwnSS.below {w w' : World} {lo : Nat} {v : Value} {zss : List (List Int)} (h : OwnSS w lo v zss) (hb : Below w.heap.size w w') : OwnSS w' lo v zss := by
  obtain ⟨vs, hr, hi⟩ := h
  refine ⟨vs, ownr_below hr hb, fun j hj => ?_⟩
  obtain ⟨u, h1, h2⟩ := hi j hj
  exact ⟨u, h1, h2.below hb⟩
theorem OwnSS.alloc {w : World} {lo : Nat} {v : Value} {zss : List (List Int)} (h : OwnSS w lo v zss) (o : Obj) : OwnSS (w.alloc o) lo v zss := h.below ((Below.refl _ _).alloc (Nat.le_refl _) _)
theorem OwnSS.sliced {w : World} {lo : Nat} {v : Value} {zss : List (List Int)} (h : OwnSS w lo v zss) : ∃ A c, v = .slice A zss.length c := by
  obtain ⟨vs, hr, _⟩ := h
  exact ownr_sliced hr
theorem OwnSS.block {w : World} {lo : Nat} {v : Value} {zss : List (List Int)} (h : OwnSS w lo v zss) : ∀ g, v.ownBlock = some g → lo ≤ g ∧ g < w.heap.size := by
  obtain ⟨vs, hr, _⟩ := h
  exact ownr_block hr
theorem OwnSS.hollow {W : World} {lo g : Nat} (h : W.heap[g]? = some (.cells #[] 42 (0, 0))) (hl : lo ≤ g) : OwnSS W lo (.slice (some ⟨g, 0, none⟩) 0 0) [] :=
  ⟨[], ⟨rfl, .inr ⟨g, 0, #[], rfl, hl, h, Nat.le_refl _, by decide, rfl, rfl⟩⟩, fun j hj => absurd hj (by simp)⟩
/-- a row of the call's own, put behind. -/
theorem OwnSS.put {w w1 w' : World} {lo : Nat} {v v' u : Value} {zss : List (List Int)} {zs : List Int} (vs : List Value) (hr : w.ownsRow lo 42 1 v zss.length vs) (hi : ∀ j, j < zss.length → ∃ u, vs[j]? = some u ∧ Own .i64 3 w lo u (zss.getD j [])) (h2 : Own .i64 3 w lo u zs)
    (hb : Below w.heap.size w w1) (hr' : w'.ownsRow lo 42 1 v' (zss.length + 1) (vs ++ [u])) (hg : w1.grownBy w' v.ownBlock) : OwnSS w' lo v' (zss ++ [zs]) := by
  have hl : vs.length = zss.length := by have := hr.1; omega
  have hr1 := ownr_below hr hb
  have kept : ∀ {x : Value} {xs : List Int}, Own .i64 3 w lo x xs → Own .i64 3 w' lo x xs := fun hx => (hx.below hb).grown hg (own_apart (hx.below hb) hr1)
  refine ⟨vs ++ [u], by rw [List.length_append]; exact hr', fun j hj => ?_⟩
  rw [List.length_append, List.length_singleton] at hj
  by_cases e : j < zss.length
  · obtain ⟨x, h1, h3⟩ := hi j e
    refine ⟨x, by rw [List.getElem?_append_left (by omega)]; exact h1, ?_⟩
    rw [List.getD_eq_getElem?_getD, List.getElem?_append_left e, ← List.getD_eq_getElem?_getD]
    exact kept h3
  · obtain rfl : j = zss.length := by omega
    refine ⟨u, by rw [List.getElem?_append_right (by omega)]; simp [hl], ?_⟩
    rw [List.getD_eq_getElem?_getD, List.getElem?_append_right (by omega)]
    simpa using kept h2
theorem addS_length (ps : List Pth) (zs : List Int) : (addS ps zs).length ≤ zs.length + ps.length := by
  unfold addS
  split
  · exact addTo_length _ _ _
  · omega
/-- the stages laid for the first i paths, and the paths done by them. -/
def coverTo (ps : List Pth) : Nat → List (List Int) × List Int
  | 0 => ([], [])
  | i + 1 => if hasI (coverTo ps i).2 (pAt ps i).id then coverTo ps i else ((coverTo ps i).1 ++ [addS ps [(pAt ps i).id]], (addS ps [(pAt ps i).id]).foldl putI (coverTo ps i).2)
/-- what CoverOf answers. -/
def coverP (ps : List Pth) : List (List Int) := if arePs ps then (coverTo ps ps.length).1 else []
theorem foldl_putI_length (s d : List Int) : (s.foldl putI d).length ≤ d.length + s.length := by
  induction s generalizing d with
  | nil => exact Nat.le_refl _
  | cons x s ih =>
    have h1 := ih (putI d x)
    have h2 := putI_length d x
    rw [List.foldl_cons, List.length_cons]
    omega
theorem coverTo_len (ps : List Pth) : ∀ i, (coverTo ps i).1.length ≤ i ∧ (coverTo ps i).2.length ≤ i * (1 + ps.length)
  | 0 => ⟨Nat.le_refl _, Nat.zero_le _⟩
  | i + 1 => by
    obtain ⟨h1, h2⟩ := coverTo_len ps i
    have hs := addS_length ps [(pAt ps i).id]
    have hf := foldl_putI_length (addS ps [(pAt ps i).id]) (coverTo ps i).2
    have e : (i + 1) * (1 + ps.length) = i * (1 + ps.length) + (1 + ps.length) := Nat.succ_mul _ _
    rw [List.length_singleton] at hs
    unfold coverTo
    split
    · exact ⟨by omega, by omega⟩
    · refine ⟨?_, ?_⟩
      · show ((coverTo ps i).1 ++ [_]).length ≤ _
        rw [List.length_append, List.length_singleton]
        omega
      · show (List.foldl putI _ _).length ≤ _
        omega
end Go.Proofs.Ytblilnfkpfjclaa

/- The laws' helpers for slices of slices of numbers. -/
namespace Go.Proofs.Ytblilnfkpfjclaa
open Go.RowKit
set_option linter.unusedVariables false

/-- no two of these lie in one block. -/
def ApartL (us : List Value) : Prop := ∀ (i j : Nat) (u u' : Value), i ≠ j → us[i]? = some u → us[j]? = some u' → ∀ g, u.ownBlock = some g → u'.ownBlock ≠ some g
theorem ApartL.nil : ApartL [] := fun i j u u' _ h => by simp at h
theorem ApartL.snoc {us : List Value} {u : Value} {b : Nat} (h : ApartL us) (h1 : ∀ x ∈ us, ∀ g, x.ownBlock = some g → g < b) (h2 : ∀ g, u.ownBlock = some g → b ≤ g) : ApartL (us ++ [u]) := by
  intro i j x y hij hx hy g hg e
  rw [List.getElem?_append] at hx hy
  split at hx
  · rename_i hi
    split at hy
    · exact h i j x y hij hx hy g hg e
    · rename_i hj
      have : j - us.length = 0 := by
        have := (List.getElem?_eq_some_iff.1 hy).1
        simp at this; omega
      rw [this] at hy
      simp at hy
      subst hy
      have := h1 x (List.mem_of_getElem? hx) g hg
      have := h2 g e
      omega
  · rename_i hi
    have hi0 : i - us.length = 0 := by
      have := (List.getElem?_eq_some_iff.1 hx).1
      simp at this; omega
    rw [hi0] at hx
    simp at hx
    subst hx
    split at hy
    · have := h1 y (List.mem_of_getElem? hy) g e
      have := h2 g hg
      omega
    · rename_i hj
      have : j - us.length = 0 := by
        have := (List.getElem?_eq_some_iff.1 hy).1
        simp at this; omega
      omega
/-- a row of rows of the call's own; each row in its own block. -/
structure OwnD (w : World) (lo : Nat) (v : Value) (us : List Value) (zss : List (List Int)) : Prop where
  row : w.ownsRow lo 42 1 v zss.length us
  each : ∀ j, j < zss.length → ∃ u, us[j]? = some u ∧ Own .i64 3 w lo u (zss.getD j [])
  apart : ApartL us
theorem OwnD.len {w : World} {lo : Nat} {v : Value} {us : List Value} {zss : List (List Int)} (h : OwnD w lo v us zss) : us.length = zss.length := by have := h.row.1; omega
theorem OwnD.ss {w : World} {lo : Nat} {v : Value} {us : List Value} {zss : List (List Int)} (h : OwnD w lo v us zss) : OwnSS w lo v zss := ⟨us, h.row, h.each⟩
theorem OwnD.below {w w' : World} {lo : Nat} {v : Value} {us : List Value} {zss : List (List Int)} (h : OwnD w lo v us zss) (hb : Below w.heap.size w w') : OwnD w' lo v us zss :=
  ⟨ownr_below h.row hb, fun j hj => by obtain ⟨u, h1, h2⟩ := h.each j hj; exact ⟨u, h1, h2.below hb⟩, h.apart⟩
theorem OwnD.mono {w : World} {lo lo' : Nat} {v : Value} {us : List Value} {zss : List (List Int)} (h : OwnD w lo v us zss) (hl : lo' ≤ lo) : OwnD w lo' v us zss :=
  ⟨ownr_mono h.row hl, fun j hj => by obtain ⟨u, h1, h2⟩ := h.each j hj; exact ⟨u, h1, h2.mono hl⟩, h.apart⟩
theorem OwnSS.rows {w : World} {lo : Nat} {A : Option Addr} {n c : Nat} {zss : List (List Int)} (h : OwnSS w lo (.slice A n c) zss) : SSAt w w.heap.size A n zss := by
  obtain ⟨vs, hr, hi⟩ := h
  have hn := ownr_len hr
  subst hn
  refine ⟨rfl, fun h0 => ?_⟩
  have hcl := (ownr_cells hr).2 (by omega)
  obtain ⟨ad, e, hb, hc⟩ := hcl
  refine ⟨ad, e, hb, fun j hj => ?_⟩
  obtain ⟨u, h1, h2⟩ := hi j hj
  obtain ⟨A', c', rfl⟩ := h2.sliced
  refine ⟨A', _, c', hc j _ h1, ?_, (ownr_cap h2).1, ownr_nilcap h2⟩
  exact h2.ints
theorem OwnSS.cap {w : World} {lo : Nat} {A : Option Addr} {n c : Nat} {zss : List (List Int)} (h : OwnSS w lo (.slice A n c) zss) : (A = none → n = 0 ∧ c = 0) ∧ n ≤ c ∧ c ≤ maxLen := by
  obtain ⟨vs, hr, hi⟩ := h
  exact ⟨ownr_nilcap hr, ownr_cap hr⟩
theorem SSAt.keep {w w' : World} {B : Nat} {A : Option Addr} {n : Nat} {zss : List (List Int)} (h : SSAt w B A n zss) (hk : ∀ p : Addr, p.block < B → w'.cell? p = w.cell? p) : SSAt w' B A n zss := by
  refine ⟨h.1, fun h0 => ?_⟩
  obtain ⟨ad, e, hb, hc⟩ := h.2 h0
  refine ⟨ad, e, hb, fun j hj => ?_⟩
  obtain ⟨A', m, c, h1, h2, h3, h4⟩ := hc j hj
  exact ⟨A', m, c, (hk _ (by rw [add_block]; exact hb)).trans h1, h2.keep hk, h3, h4⟩
theorem SSAt.up {w : World} {B B' : Nat} {A : Option Addr} {n : Nat} {zss : List (List Int)} (h : SSAt w B A n zss) (hB : B ≤ B') : SSAt w B' A n zss := by
  refine ⟨h.1, fun h0 => ?_⟩
  obtain ⟨ad, e, hb, hc⟩ := h.2 h0
  refine ⟨ad, e, by omega, fun j hj => ?_⟩
  obtain ⟨A', m, c, h1, h2, h3, h4⟩ := hc j hj
  exact ⟨A', m, c, h1, h2.up hB, h3, h4⟩
theorem made_nils (n : Nat) : (madeCells (Value.slice none 0 0).cells (n * 1)).toList = List.replicate n (Value.slice none 0 0) := by
  simp only [madeCells, Value.cells]
  apply List.ext_getElem?
  intro i
  simp only [Array.toList_map, List.getElem?_map, Nat.mul_one]
  by_cases h : i < n
  · simp [h, Nat.mod_one]
  · simp [h]
theorem set_next (us : List Value) (n : Nat) (u : Value) (h : us.length < n) : (us ++ List.replicate (n - us.length) (Value.slice none 0 0)).set us.length u = (us ++ [u]) ++ List.replicate (n - (us ++ [u]).length) (Value.slice none 0 0) := by
  rw [List.set_append_right _ _ (Nat.le_refl _), Nat.sub_self, List.length_append, List.length_singleton]
  have e : n - us.length = (n - (us.length + 1)) + 1 := by omega
  rw [e, List.replicate_succ, List.set_cons_zero]
  simp
theorem apart_row {w : World} {lo lo2 : Nat} {u v : Value} {zs : List Int} {n : Nat} {vs : List Value} (h : Own .i64 3 w lo u zs) (h2 : w.ownsRow lo2 42 1 v n vs) : ∀ g, u.ownBlock = some g → v.ownBlock ≠ some g := own_apart h h2
theorem sz_ints (A : Option Addr) (n c : Nat) (left : Int) (w : World) (hn : n ≤ 9223372036854775807) (hl : 0 ≤ left ∧ left ≤ 1048576) :
    Calls Try.prog 121 #[.slice A n c, .int .i64 left] w fun e w' => e = .returned (.int .i64 (if (n : Int) ≤ left then left - (n : Int) else -1)) ∧ w = w' := by
  obtain ⟨l1, l2⟩ := hl
  by_cases h : (n : Int) ≤ left
  · rw [if_pos h]
    go_enter Try.func121, Try.ntmps121
    go_wp2
    go_ret
    exact ⟨rfl, rfl⟩
  · rw [if_neg h]
    go_enter Try.func121, Try.ntmps121
    go_wp2
    go_ret
    exact ⟨rfl, rfl⟩
/-- a slice of slices that a call is given. -/
structure SlSS (w : World) (A : Option Addr) (n c : Nat) (zss : List (List Int)) : Prop where
  ss : SSAt w w.heap.size A n zss
  bare : A = none → n = 0 ∧ c = 0
  cap : n ≤ c ∧ c ≤ maxLen
/-- few and short. -/
def SmallSS (zss : List (List Int)) : Prop := zss.length ≤ 1048576 ∧ ∀ j, j < zss.length → (zss.getD j []).length ≤ 1048576
theorem SmallSS.at {zss : List (List Int)} (h : SmallSS zss) (n M : Nat) (hn : n = zss.length) (hM : 1048576 ≤ M) : ∀ j, j < n → (zss.getD j []).length ≤ M := fun j hj => Nat.le_trans (h.2 j (by omega)) hM
/-- rows of the call's own, between two block numbers. -/
structure OwD (w : World) (lo hi : Nat) (v : Value) (us : List Value) (zss : List (List Int)) : Prop where
  own : OwnD w lo v us zss
  lt : ∀ g, v.ownBlock = some g → g < hi
  ltu : ∀ u ∈ us, ∀ g, u.ownBlock = some g → lo ≤ g ∧ g < hi
  top : hi ≤ w.heap.size
theorem OwnD.inner {w : World} {lo : Nat} {v : Value} {us : List Value} {zss : List (List Int)} (h : OwnD w lo v us zss) {u : Value} (hu : u ∈ us) : ∃ zs, Own .i64 3 w lo u zs := by
  obtain ⟨j, hj, rfl⟩ := List.getElem_of_mem hu
  have hl := h.len
  obtain ⟨x, h1, h2⟩ := h.each j (by omega)
  rw [List.getElem?_eq_getElem hj] at h1
  injection h1 with h1
  subst h1
  exact ⟨_, h2⟩
theorem OwD.new {w : World} {lo : Nat} {v : Value} {us : List Value} {zss : List (List Int)} (h : OwnD w lo v us zss) : OwD w lo w.heap.size v us zss :=
  ⟨h, fun g e => (ownr_block h.row g e).2, fun u hu g e => by obtain ⟨zs, ho⟩ := h.inner hu; exact ho.block g e, Nat.le_refl _⟩
theorem OwD.below {w w' : World} {lo hi : Nat} {v : Value} {us : List Value} {zss : List (List Int)} (h : OwD w lo hi v us zss) (hb : Below w.heap.size w w') : OwD w' lo hi v us zss := ⟨h.own.below hb, h.lt, h.ltu, Nat.le_trans h.top hb.size⟩
theorem OwD.ints {w : World} {lo hi : Nat} {A : Option Addr} {n c : Nat} {us : List Value} {zss : List (List Int)} (h : OwD w lo hi (.slice A n c) us zss) : SSAt w w.heap.size A n zss := h.own.ss.rows
theorem OwD.sl {w : World} {lo hi : Nat} {A : Option Addr} {n c : Nat} {us : List Value} {zss : List (List Int)} (h : OwD w lo hi (.slice A n c) us zss) : SlSS w A n c zss := ⟨h.ints, h.own.ss.cap.1, h.own.ss.cap.2⟩
theorem OwD.part {w w' : World} {lo hi l h' : Nat} {v : Value} {us : List Value} {zss : List (List Int)} (h : OwD w lo hi v us zss) (hp : Part l h' w w') (hd : hi ≤ l ∨ h' ≤ lo) : OwD w' lo hi v us zss := by
  refine ⟨⟨?_, fun j hj => ?_, h.own.apart⟩, h.lt, h.ltu, Nat.le_trans h.top hp.size⟩
  · refine ⟨h.own.row.1, ?_⟩
    rcases h.own.row.2 with h2 | ⟨g, cap, cur, rfl, hl, hg, r⟩
    · exact .inl h2
    · have hlt := h.lt g rfl
      have htop := h.top
      exact .inr ⟨g, cap, cur, rfl, hl, (hp.block g (by omega) (by omega)).trans hg, r⟩
  · obtain ⟨u, h1, h2⟩ := h.own.each j hj
    refine ⟨u, h1, h2.1, ?_⟩
    have hu := List.mem_of_getElem? h1
    rcases h2.2 with h3 | ⟨g, cap, cur, rfl, hl, hg, r⟩
    · exact .inl h3
    · have hlt := h.ltu _ hu g rfl
      have htop := h.top
      exact .inr ⟨g, cap, cur, rfl, hl, (hp.block g (by omega) (by omega)).trans hg, r⟩
/-- how many numbers the first k rows hold. -/
def tot (zss : List (List Int)) (k : Nat) : Nat := ((zss.take k).map List.length).sum
theorem tot_zero (zss : List (List Int)) : tot zss 0 = 0 := by simp [tot]
theorem tot_succ {zss : List (List Int)} {k : Nat} (h : k < zss.length) : tot zss (k + 1) = tot zss k + (zss.getD k []).length := by
  unfold tot
  rw [List.take_add_one, List.getElem?_eq_getElem h, List.map_append, List.sum_append, List.getD_eq_getElem?_getD, List.getElem?_eq_getElem h]
  simp
theorem tot_le {zss : List (List Int)} (h : SmallSS zss) : ∀ k, k ≤ zss.length → tot zss k ≤ k * 1048576
  | 0, _ => by rw [tot_zero]; exact Nat.zero_le _
  | k + 1, hk => by
    have ih := tot_le h k (by omega)
    have := h.2 k (by omega)
    rw [tot_succ (by omega)]
    omega
theorem tot_top {zss : List (List Int)} (h : SmallSS zss) {k : Nat} (hk : k ≤ zss.length) : tot zss k ≤ 1099511627776 := by
  have h1 := tot_le h k hk
  have h2 := h.1
  have : k * 1048576 ≤ 1048576 * 1048576 := Nat.mul_le_mul_right _ (by omega)
  omega
/-- the first k rows marked. -/
def mixS (s : Nat) (zss : List (List Int)) (k : Nat) : List (List Int) := (List.range zss.length).map fun j => if j < k then marks .i64 ((s + tot zss j : Nat) : Int) (zss.getD j []).length else zss.getD j []
theorem mixS_len (s : Nat) (zss : List (List Int)) (k : Nat) : (mixS s zss k).length = zss.length := by simp [mixS]
theorem mixS_at (s : Nat) (zss : List (List Int)) (k : Nat) {j : Nat} (h : j < zss.length) : (mixS s zss k).getD j [] = if j < k then marks .i64 ((s + tot zss j : Nat) : Int) (zss.getD j []).length else zss.getD j [] := by
  simp [mixS, List.getD_eq_getElem?_getD, h]
theorem mixS_row (s : Nat) (zss : List (List Int)) (k : Nat) {j : Nat} (h : j < zss.length) : ((mixS s zss k).getD j []).length = (zss.getD j []).length := by
  rw [mixS_at s zss k h]
  split
  · rw [marks_length]
  · rfl
theorem mixS_zero (s : Nat) (zss : List (List Int)) : mixS s zss 0 = zss := by
  apply List.ext_getElem?
  intro i
  by_cases h : i < zss.length
  · simp [mixS, h]
  · rw [List.getElem?_eq_none (by rw [mixS_len]; omega), List.getElem?_eq_none (by omega)]
/-- the same, where nothing is said of two rows' blocks. -/
structure OwE (w : World) (lo hi : Nat) (v : Value) (us : List Value) (zss : List (List Int)) : Prop where
  row : w.ownsRow lo 42 1 v zss.length us
  each : ∀ j, j < zss.length → ∃ u, us[j]? = some u ∧ Own .i64 3 w lo u (zss.getD j [])
  lt : ∀ g, v.ownBlock = some g → g < hi
  ltu : ∀ (j : Nat) (u : Value), us[j]? = some u → ∀ g, u.ownBlock = some g → lo ≤ g ∧ g < hi
  top : hi ≤ w.heap.size
theorem OwE.new {w : World} {lo : Nat} {v : Value} {us : List Value} {zss : List (List Int)} (hr : w.ownsRow lo 42 1 v zss.length us) (hi : ∀ j, j < zss.length → ∃ u, us[j]? = some u ∧ Own .i64 3 w lo u (zss.getD j [])) : OwE w lo w.heap.size v us zss :=
  ⟨hr, hi, fun g e => (ownr_block hr g e).2, fun j u hj g e => by
    have hl := hr.1
    obtain ⟨u', h1, h2⟩ := hi j (by have := (List.getElem?_eq_some_iff.1 hj).1; omega)
    rw [hj] at h1
    injection h1 with h1
    subst h1
    exact h2.block g e, Nat.le_refl _⟩
theorem OwE.below {w w' : World} {lo hi : Nat} {v : Value} {us : List Value} {zss : List (List Int)} (h : OwE w lo hi v us zss) (hb : Below w.heap.size w w') : OwE w' lo hi v us zss :=
  ⟨ownr_below h.row hb, fun j hj => by obtain ⟨u, h1, h2⟩ := h.each j hj; exact ⟨u, h1, h2.below hb⟩, h.lt, h.ltu, Nat.le_trans h.top hb.size⟩
theorem OwE.ints {w : World} {lo hi : Nat} {A : Option Addr} {n c : Nat} {us : List Value} {zss : List (List Int)} (h : OwE w lo hi (.slice A n c) us zss) : SSAt w w.heap.size A n zss := OwnSS.rows ⟨us, h.row, h.each⟩
theorem OwE.part {w w' : World} {lo hi l h' : Nat} {v : Value} {us : List Value} {zss : List (List Int)} (h : OwE w lo hi v us zss) (hp : Part l h' w w') (hd : hi ≤ l ∨ h' ≤ lo) : OwE w' lo hi v us zss := by
  refine ⟨?_, fun j hj => ?_, h.lt, h.ltu, Nat.le_trans h.top hp.size⟩
  · refine ⟨h.row.1, ?_⟩
    rcases h.row.2 with h2 | ⟨g, cap, cur, rfl, hl, hg, r⟩
    · exact .inl h2
    · have hlt := h.lt g rfl
      have htop := h.top
      exact .inr ⟨g, cap, cur, rfl, hl, (hp.block g (by omega) (by omega)).trans hg, r⟩
  · obtain ⟨u, h1, h2⟩ := h.each j hj
    refine ⟨u, h1, h2.1, ?_⟩
    rcases h2.2 with h3 | ⟨g, cap, cur, rfl, hl, hg, r⟩
    · exact .inl h3
    · have hlt := h.ltu j _ h1 g rfl
      have htop := h.top
      exact .inr ⟨g, cap, cur, rfl, hl, (hp.block g (by omega) (by omega)).trans hg, r⟩
end Go.Proofs.Ytblilnfkpfjclaa

/- Rows of elements of two or three cells. No program. -/
namespace Go.Proofs.Ytblilnfkpfjclaa
open Go.RowKit

theorem stored2 {w : World} {g : Nat} {x0 x1 a b : Value} {E : TypeId} (h : w.heap[g]? = some (.cells #[x0, x1] E)) : ((w.setCell ⟨g, 0, none⟩ a).setCell ⟨g, 1, none⟩ b).heap[g]? = some (.cells #[a, b] E) :=
  heap_setCell_same _ g 1 _ E b (heap_setCell_same w g 0 _ E a h)
theorem stored3 {w : World} {g : Nat} {x0 x1 x2 a b c : Value} {E : TypeId} (h : w.heap[g]? = some (.cells #[x0, x1, x2] E)) : (((w.setCell ⟨g, 0, none⟩ a).setCell ⟨g, 1, none⟩ b).setCell ⟨g, 2, none⟩ c).heap[g]? = some (.cells #[a, b, c] E) :=
  heap_setCell_same _ g 2 _ E c (heap_setCell_same _ g 1 _ E b (heap_setCell_same w g 0 _ E a h))
theorem stored4 {w : World} {g : Nat} {x0 x1 x2 x3 a b c d : Value} {E : TypeId} (h : w.heap[g]? = some (.cells #[x0, x1, x2, x3] E)) : ((((w.setCell ⟨g, 0, none⟩ a).setCell ⟨g, 1, none⟩ b).setCell ⟨g, 2, none⟩ c).setCell ⟨g, 3, none⟩ d).heap[g]? = some (.cells #[a, b, c, d] E) :=
  heap_setCell_same _ g 3 _ E d (heap_setCell_same _ g 2 _ E c (heap_setCell_same _ g 1 _ E b (heap_setCell_same w g 0 _ E a h)))
theorem unstored2 {w : World} {g k : Nat} {a b : Value} {x : Obj} (h : w.heap[k]? = some x) (hk : k ≠ g) : ((w.setCell ⟨g, 0, none⟩ a).setCell ⟨g, 1, none⟩ b).heap[k]? = some x :=
  (heap_setCell_other _ _ k b hk).trans ((heap_setCell_other w _ k a hk).trans h)
theorem unstored3 {w : World} {g k : Nat} {a b c : Value} {x : Obj} (h : w.heap[k]? = some x) (hk : k ≠ g) : (((w.setCell ⟨g, 0, none⟩ a).setCell ⟨g, 1, none⟩ b).setCell ⟨g, 2, none⟩ c).heap[k]? = some x :=
  (heap_setCell_other _ _ k c hk).trans ((heap_setCell_other _ _ k b hk).trans ((heap_setCell_other w _ k a hk).trans h))
theorem unstored4 {w : World} {g k : Nat} {a b c d : Value} {x : Obj} (h : w.heap[k]? = some x) (hk : k ≠ g) : ((((w.setCell ⟨g, 0, none⟩ a).setCell ⟨g, 1, none⟩ b).setCell ⟨g, 2, none⟩ c).setCell ⟨g, 3, none⟩ d).heap[k]? = some x :=
  (heap_setCell_other _ _ k d hk).trans ((heap_setCell_other _ _ k c hk).trans ((heap_setCell_other _ _ k b hk).trans ((heap_setCell_other w _ k a hk).trans h)))
theorem add_plusF (q : Addr) (i : Nat) (h : 0 < i) : q.add i = ⟨q.block, q.off + i, none⟩ := by unfold Addr.add; rw [if_neg (by omega)]
theorem heap_size_allocF (w : World) (o : Obj) : (w.alloc o).heap.size = w.heap.size + 1 := by simp
theorem heap_old (w : World) (o : Obj) {g : Nat} {x : Obj} (h : w.heap[g]? = some x) : (w.alloc o).heap[g]? = some x := (Below.heap_alloc _ _ _ (lt_of_block h)).trans h
theorem heap_newF (w : World) (o : Obj) {g : Nat} (h : w.heap.size = g) : (w.alloc o).heap[g]? = some o := by subst h; exact heap_alloc_new w o
theorem one_block {w wA : World} {o0 : Obj} (h : wA = w.alloc o0) : wA.heap[w.heap.size]? = some o0 ∧ wA.heap.size = w.heap.size + 1 ∧ Below w.heap.size w wA := by
  subst h
  exact ⟨heap_alloc_new w o0, heap_size_allocF _ _, (Below.refl _ _).alloc (Nat.le_refl _) _⟩
theorem two_blocks {w wA : World} {o0 o1 : Obj} (h : wA = (w.alloc o0).alloc o1) : wA.heap[w.heap.size]? = some o0 ∧ wA.heap[w.heap.size + 1]? = some o1 ∧ wA.heap.size = w.heap.size + 2 ∧ Below w.heap.size w wA := by
  subst h
  refine ⟨heap_old _ _ (heap_alloc_new w o0), heap_newF _ _ (heap_size_allocF _ _), ?_, ((Below.refl _ _).alloc (Nat.le_refl _) _).alloc ?_ _⟩
  · rw [heap_size_allocF, heap_size_allocF]
  · rw [heap_size_allocF]; omega
theorem three_blocks {w wA : World} {o0 o1 o2 : Obj} (h : wA = ((w.alloc o0).alloc o1).alloc o2) : wA.heap[w.heap.size]? = some o0 ∧ wA.heap[w.heap.size + 1]? = some o1 ∧ wA.heap[w.heap.size + 1 + 1]? = some o2 ∧ wA.heap.size = w.heap.size + 3 ∧ Below w.heap.size w wA := by
  subst h
  refine ⟨heap_old _ _ (heap_old _ _ (heap_alloc_new w o0)), heap_old _ _ (heap_newF _ _ (heap_size_allocF _ _)), heap_newF _ _ ?_, ?_, (((Below.refl _ _).alloc (Nat.le_refl _) _).alloc ?_ _).alloc ?_ _⟩
  · rw [heap_size_allocF, heap_size_allocF]
  · rw [heap_size_allocF, heap_size_allocF, heap_size_allocF]
  · rw [heap_size_allocF]; omega
  · rw [heap_size_allocF, heap_size_allocF]; omega
theorem results_cell_tmpF {fn : Func} {p q : Tmp} {ty : TypeId} (h : fn.results = #[.cell p ty, .tmp q]) (tmps : Array Value) (P : Program) (w : World) :
    (results fn tmps).run P w = ((asAddr (tmps.getD p undef)).run P w).andThen fun a w₁ => ((loadVar ty a).run P w₁).andThen fun v w₂ => .ok (.tuple #[v, tmps.getD q undef]) w₂ := by
  simp only [results, h]
  simp [Sem.run_bind, Result.andThen]
theorem set2 {pre rest : List Value} {z0 z1 a b : Value} {m : Nat} (h : pre.length = m) : (((pre ++ z0 :: z1 :: rest).set m a).set (m + 1) b) = pre ++ a :: b :: rest := by
  rw [set_at h]
  have e1 : pre ++ a :: z1 :: rest = (pre ++ [a]) ++ z1 :: rest := by simp
  rw [e1, set_at (by simp [h])]
  simp
theorem drop2 {zs : List Value} {m : Nat} (h : m + 2 ≤ zs.length) : ∃ z0 z1, zs.drop m = z0 :: z1 :: zs.drop (m + 2) :=
  ⟨zs[m], zs[m + 1], by rw [List.drop_eq_getElem_cons (by omega), List.drop_eq_getElem_cons (by omega)]⟩
theorem set3 {pre rest : List Value} {z0 z1 z2 a b c : Value} {m : Nat} (h : pre.length = m) : (((pre ++ z0 :: z1 :: z2 :: rest).set m a).set (m + 1) b).set (m + 2) c = pre ++ a :: b :: c :: rest := by
  rw [set_at h]
  have e1 : pre ++ a :: z1 :: z2 :: rest = (pre ++ [a]) ++ z1 :: z2 :: rest := by simp
  rw [e1, set_at (by simp [h])]
  have e2 : (pre ++ [a]) ++ b :: z2 :: rest = (pre ++ [a, b]) ++ z2 :: rest := by simp
  rw [e2, set_at (by simp [h])]
  simp
theorem drop3 {zs : List Value} {m : Nat} (h : m + 3 ≤ zs.length) : ∃ z0 z1 z2, zs.drop m = z0 :: z1 :: z2 :: zs.drop (m + 3) :=
  ⟨zs[m], zs[m + 1], zs[m + 2], by rw [List.drop_eq_getElem_cons (by omega), List.drop_eq_getElem_cons (by omega), List.drop_eq_getElem_cons (by omega)]⟩
theorem set5 {pre rest : List Value} {z0 z1 z2 z3 z4 a b c d e : Value} {m : Nat} (h : pre.length = m) : (((((pre ++ z0 :: z1 :: z2 :: z3 :: z4 :: rest).set m a).set (m + 1) b).set (m + 2) c).set (m + 3) d).set (m + 4) e = pre ++ a :: b :: c :: d :: e :: rest := by
  rw [set4 h]
  have e1 : pre ++ a :: b :: c :: d :: z4 :: rest = (pre ++ [a, b, c, d]) ++ z4 :: rest := by simp
  rw [e1, set_at (by simp [h])]
  simp
theorem drop5 {zs : List Value} {m : Nat} (h : m + 5 ≤ zs.length) : ∃ z0 z1 z2 z3 z4, zs.drop m = z0 :: z1 :: z2 :: z3 :: z4 :: zs.drop (m + 5) :=
  ⟨zs[m], zs[m + 1], zs[m + 2], zs[m + 3], zs[m + 4], by rw [List.drop_eq_getElem_cons (by omega), List.drop_eq_getElem_cons (by omega), List.drop_eq_getElem_cons (by omega), List.drop_eq_getElem_cons (by omega), List.drop_eq_getElem_cons (by omega)]⟩
end Go.Proofs.Ytblilnfkpfjclaa

/- Entry as Lean data; rows of them, and the laws' helpers for these (written by genrow.py). -/
namespace Go.Proofs.Ytblilnfkpfjclaa
open Go.RowKit
set_option linter.unusedVariables false

structure Ent where
  second : Int
  lights : List Int
  mac : Int
deriving DecidableEq
def ent0 : Ent := ⟨0, [], 0⟩
def Ent.wf (p : Ent) : Prop := p.lights.length ≤ maxLen ∧ (∀ z ∈ p.lights, (Lit.int .i64 z).wf = true) ∧ (Lit.int .i64 p.second).wf = true ∧ (Lit.int .i64 p.mac).wf = true
/-- the j-th one. -/
def entA (ps : List Ent) (j : Nat) : Ent := ps.getD j ent0
theorem entA_some {ps : List Ent} {k : Nat} {p : Ent} (h : ps[k]? = some p) : entA ps k = p := by simp [entA, List.getD, h]
theorem entA_get {ps : List Ent} {k : Nat} (h : k < ps.length) : ps[k]? = some (entA ps k) := by
  rw [List.getElem?_eq_getElem h]
  simp [entA, List.getD, List.getElem?_eq_getElem h]
theorem entA_mem {ps : List Ent} {k : Nat} (h : k < ps.length) : entA ps k ∈ ps := List.mem_of_getElem? (entA_get h)
/-- one lies at q: the slice and the ints. -/
structure EntAt (w : World) (q : Addr) (u : Value) (p : Ent) : Prop where
  c0 : w.cell? q = some (.int .i64 p.second)
  c1 : w.cell? ⟨q.block, q.off + 1, none⟩ = some u
  c2 : w.cell? ⟨q.block, q.off + 2, none⟩ = some (.int .i64 p.mac)
theorem EntAt.keep {w w' : World} {q : Addr} {u : Value} {p : Ent} (h : EntAt w q u p) (e : w'.heap[q.block]? = w.heap[q.block]?) : EntAt w' q u p :=
  ⟨(World.cell?_of_block e).trans h.c0, (World.cell?_of_block (a := ⟨q.block, q.off + 1, none⟩) e).trans h.c1, (World.cell?_of_block (a := ⟨q.block, q.off + 2, none⟩) e).trans h.c2⟩
theorem EntAt.below {w w' : World} {q : Addr} {u : Value} {p : Ent} {B : Nat} (h : EntAt w q u p) (hb : Below B w w') (hB : q.block < B) : EntAt w' q u p := h.keep (hb.block _ hB)
/-- A slice value that holds these, all in blocks below B. -/
def EntsAt (w : World) (B : Nat) (A : Option Addr) (n : Nat) (ps : List Ent) : Prop :=
  ps.length = n ∧ (0 < n → ∃ ad, A = some ad ∧ ad.block < B ∧ ∀ j, j < n → ∃ A' m c, EntAt w (ad.add (j * 3)) (.slice A' m c) (entA ps j) ∧ IntsAt .i64 w B A' m (entA ps j).lights ∧ (m ≤ c ∧ c ≤ maxLen) ∧ (A' = none → m = 0 ∧ c = 0))
theorem EntsAt.at {w : World} {B : Nat} {A : Option Addr} {n : Nat} {ps : List Ent} (h : EntsAt w B A n ps) {j : Nat} (hj : j < n) :
    ∃ ad A' m c, A = some ad ∧ (ad.add (j * 3)).block < B ∧ EntAt w (ad.add (j * 3)) (.slice A' m c) (entA ps j) ∧ IntsAt .i64 w B A' m (entA ps j).lights ∧ (m ≤ c ∧ c ≤ maxLen) ∧ (A' = none → m = 0 ∧ c = 0) := by
  obtain ⟨ad, e, hb, hc⟩ := h.2 (by omega)
  obtain ⟨A', m, c, h1⟩ := hc j hj
  exact ⟨ad, A', m, c, e, by rw [add_block]; exact hb, h1⟩
theorem EntsAt.keep {w w' : World} {B : Nat} {A : Option Addr} {n : Nat} {ps : List Ent} (h : EntsAt w B A n ps) (hb : Below B w w') : EntsAt w' B A n ps := by
  refine ⟨h.1, fun h0 => ?_⟩
  obtain ⟨ad, e, hB, hc⟩ := h.2 h0
  refine ⟨ad, e, hB, fun j hj => ?_⟩
  obtain ⟨A', m, c, h1, h2, h3, h4⟩ := hc j hj
  exact ⟨A', m, c, h1.below hb (by rw [add_block]; exact hB), h2.keep (fun p hp => hb.cell hp), h3, h4⟩
theorem EntsAt.below {w w' : World} {B : Nat} {A : Option Addr} {n : Nat} {ps : List Ent} (h : EntsAt w B A n ps) (hB : B ≤ w.heap.size) (hb : Below w.heap.size w w') : EntsAt w' B A n ps := h.keep (hb.mono hB)
theorem EntsAt.up {w : World} {B B' : Nat} {A : Option Addr} {n : Nat} {ps : List Ent} (h : EntsAt w B A n ps) (hB : B ≤ B') : EntsAt w B' A n ps := by
  refine ⟨h.1, fun h0 => ?_⟩
  obtain ⟨ad, e, hb, hc⟩ := h.2 h0
  refine ⟨ad, e, by omega, fun j hj => ?_⟩
  obtain ⟨A', m, c, h1, h2, h3, h4⟩ := hc j hj
  exact ⟨A', m, c, h1, h2.up hB, h3, h4⟩
/-- the cells of a row. -/
def entrow (xs : List (Value × Ent)) : List Value := xs.flatMap fun x => [.int .i64 x.2.second, x.1, .int .i64 x.2.mac]
theorem entrow_length (xs : List (Value × Ent)) : (entrow xs).length = xs.length * 3 := flat_length (f := fun x : Value × Ent => [.int .i64 x.2.second, x.1, .int .i64 x.2.mac]) (fun _ => rfl) xs
theorem entrow_at0 {xs : List (Value × Ent)} {j : Nat} {x : Value × Ent} (h : xs[j]? = some x) : (entrow xs)[j * 3]? = some (.int .i64 x.2.second) := by
  exact flat_get (f := fun x : Value × Ent => [.int .i64 x.2.second, x.1, .int .i64 x.2.mac]) (s := 3) (fun _ => rfl) xs j 0 x h (by decide)
theorem entrow_at1 {xs : List (Value × Ent)} {j : Nat} {x : Value × Ent} (h : xs[j]? = some x) : (entrow xs)[j * 3 + 1]? = some x.1 := by
  exact flat_get (f := fun x : Value × Ent => [.int .i64 x.2.second, x.1, .int .i64 x.2.mac]) (s := 3) (fun _ => rfl) xs j 1 x h (by decide)
theorem entrow_at2 {xs : List (Value × Ent)} {j : Nat} {x : Value × Ent} (h : xs[j]? = some x) : (entrow xs)[j * 3 + 2]? = some (.int .i64 x.2.mac) := by
  exact flat_get (f := fun x : Value × Ent => [.int .i64 x.2.second, x.1, .int .i64 x.2.mac]) (s := 3) (fun _ => rfl) xs j 2 x h (by decide)
theorem entrow_append (xs ys : List (Value × Ent)) : entrow (xs ++ ys) = entrow xs ++ entrow ys := by simp [entrow]
theorem entrow_next (xs : List (Value × Ent)) (n : Nat) (z x : Value × Ent) (h : xs.length < n) :
    ((((entrow xs ++ entrow (List.replicate (n - xs.length) z)).set (xs.length * 3) (.int .i64 x.2.second)).set (xs.length * 3 + 1) x.1).set (xs.length * 3 + 2) (.int .i64 x.2.mac)) = entrow (xs ++ [x]) ++ entrow (List.replicate (n - (xs ++ [x]).length) z) := by
  obtain ⟨m, hm⟩ : ∃ m, n - xs.length = m + 1 := ⟨n - xs.length - 1, by omega⟩
  have e2 : n - (xs ++ [x]).length = m := by rw [List.length_append, List.length_singleton]; omega
  rw [e2, hm, List.replicate_succ]
  have e3 : entrow (z :: List.replicate m z) = .int .i64 z.2.second :: z.1 :: .int .i64 z.2.mac :: entrow (List.replicate m z) := rfl
  rw [e3, set3 (entrow_length xs), entrow_append]
  simp [entrow]
theorem made_ent (n : Nat) : (madeCells (Value.agg #[Value.int .i64 0, Value.slice none 0 0, Value.int .i64 0]).cells (n * 3)).toList = entrow (List.replicate n (Value.slice none 0 0, ent0)) := by
  have h : (Value.agg #[Value.int .i64 0, Value.slice none 0 0, Value.int .i64 0]).cells = #[Value.int .i64 0, Value.slice none 0 0, Value.int .i64 0] := rfl
  rw [h]
  apply List.ext_getElem?
  intro i
  simp only [madeCells, Array.toList_map, List.getElem?_map]
  by_cases hi : i < n * 3
  · have hx : (List.replicate n ((Value.slice none 0 0, ent0) : Value × Ent))[i / 3]? = some (Value.slice none 0 0, ent0) := by rw [List.getElem?_replicate, if_pos (by omega)]
    have h2 : i % 3 = 0 ∨ i % 3 = 1 ∨ i % 3 = 2 := by omega
    rcases h2 with h2 | h2 | h2
    · have := entrow_at0 hx
      rw [show i / 3 * 3 = i by omega] at this
      rw [this]
      simp [hi, h2, ent0]
    · have := entrow_at1 hx
      rw [show i / 3 * 3 + 1 = i by omega] at this
      rw [this]
      simp [hi, h2]
    · have := entrow_at2 hx
      rw [show i / 3 * 3 + 2 = i by omega] at this
      rw [this]
      simp [hi, h2, ent0]
  · rw [List.getElem?_eq_none (l := entrow _) (by rw [entrow_length, List.length_replicate]; omega)]
    simp [hi]
theorem info_ent : (Try.prog.info? 91).map (fun i => (i.zero, i.size, i.bytes)) = some (some (.agg #[.int .i64 0, .slice none 0 0, .int .i64 0]), 3, 40) := by kernel_rfl
/-- rows of other types lie in other blocks. -/
theorem own_apart_ent {w : World} {lo lo2 : Nat} {u v : Value} {zs : List Int} {n : Nat} {vs : List Value} (h : Own .i64 3 w lo u zs) (h2 : w.ownsRow lo2 91 3 v n vs) : ∀ g, u.ownBlock = some g → v.ownBlock ≠ some g := by
  intro g hg e
  rcases h.2 with ⟨rfl, _⟩ | ⟨g1, cap, cur, rfl, hb, hg1, r⟩
  · cases hg
  · rcases h2.2 with ⟨rfl, _⟩ | ⟨g2, cap2, cur2, rfl, hb2, hg2, r2⟩
    · cases e
    · have e1 : g1 = g := Option.some.inj hg
      have e2 : g2 = g := Option.some.inj e
      subst e1
      subst e2
      rw [hg1] at hg2
      injection hg2 with hg2
      injection hg2 with _ ht
      exact absurd ht (by decide)
/-- a row of the call's own. -/
structure OwnEnt (w : World) (lo : Nat) (v : Value) (xs : List (Value × Ent)) (ps : List Ent) : Prop where
  row : w.ownsRow lo 91 3 v ps.length (entrow xs)
  each : ∀ j, j < ps.length → ∃ u, xs[j]? = some (u, entA ps j) ∧ Own .i64 3 w lo u (entA ps j).lights
  apart : ApartL (xs.map (·.1))
theorem OwnEnt.len {w : World} {lo : Nat} {v : Value} {xs : List (Value × Ent)} {ps : List Ent} (h : OwnEnt w lo v xs ps) : xs.length = ps.length := by
  have := h.row.1
  rw [entrow_length] at this
  omega
theorem OwnEnt.below {w w' : World} {lo : Nat} {v : Value} {xs : List (Value × Ent)} {ps : List Ent} (h : OwnEnt w lo v xs ps) (hb : Below w.heap.size w w') : OwnEnt w' lo v xs ps :=
  ⟨ownr_below h.row hb, fun j hj => by obtain ⟨u, h1, h2⟩ := h.each j hj; exact ⟨u, h1, h2.below hb⟩, h.apart⟩
theorem OwnEnt.ss {w : World} {lo : Nat} {A : Option Addr} {n c : Nat} {xs : List (Value × Ent)} {ps : List Ent} (h : OwnEnt w lo (.slice A n c) xs ps) : EntsAt w w.heap.size A n ps := by
  have hn := ownr_len h.row
  subst hn
  refine ⟨rfl, fun h0 => ?_⟩
  obtain ⟨ad, e, hb, hc⟩ := (ownr_cells h.row).2 (by omega)
  refine ⟨ad, e, hb, fun j hj => ?_⟩
  obtain ⟨u, h1, h2⟩ := h.each j hj
  obtain ⟨A', c', rfl⟩ := h2.sliced
  refine ⟨A', _, c', ⟨hc _ _ (entrow_at0 h1), ?_, ?_⟩, h2.ints, h2.cap, h2.nilcap'⟩
  · rw [← add_plusF _ 1 (by decide), add_add]
    exact hc _ _ (entrow_at1 h1)
  · rw [← add_plusF _ 2 (by decide), add_add]
    exact hc _ _ (entrow_at2 h1)
/-- rows between two block numbers. -/
structure OwEnt (w : World) (lo hi : Nat) (v : Value) (xs : List (Value × Ent)) (ps : List Ent) : Prop where
  own : OwnEnt w lo v xs ps
  lt : ∀ g, v.ownBlock = some g → g < hi
  top : hi ≤ w.heap.size
theorem OwEnt.new {w : World} {lo : Nat} {v : Value} {xs : List (Value × Ent)} {ps : List Ent} (h : OwnEnt w lo v xs ps) : OwEnt w lo w.heap.size v xs ps :=
  ⟨h, fun g e => (ownr_block h.row g e).2, Nat.le_refl _⟩
theorem OwEnt.below {w w' : World} {lo hi : Nat} {v : Value} {xs : List (Value × Ent)} {ps : List Ent} (h : OwEnt w lo hi v xs ps) (hb : Below w.heap.size w w') : OwEnt w' lo hi v xs ps := ⟨h.own.below hb, h.lt, Nat.le_trans h.top hb.size⟩
theorem OwEnt.ints {w : World} {lo hi : Nat} {A : Option Addr} {n c : Nat} {xs : List (Value × Ent)} {ps : List Ent} (h : OwEnt w lo hi (.slice A n c) xs ps) : EntsAt w w.heap.size A n ps := h.own.ss
/-- a slice that a call is given. -/
structure SlEnt (w : World) (A : Option Addr) (n c : Nat) (ps : List Ent) : Prop where
  pths : EntsAt w w.heap.size A n ps
  bare : A = none → n = 0 ∧ c = 0
  cap : n ≤ c ∧ c ≤ maxLen
  wf : ∀ p ∈ ps, p.wf
theorem OwEnt.sl {w : World} {lo hi : Nat} {A : Option Addr} {n c : Nat} {xs : List (Value × Ent)} {ps : List Ent} (h : OwEnt w lo hi (.slice A n c) xs ps) (hw : ∀ p ∈ ps, p.wf) : SlEnt w A n c ps := ⟨h.ints, ownr_nilcap h.own.row, ownr_cap h.own.row, hw⟩
theorem SlEnt.below {w w' : World} {A : Option Addr} {n c : Nat} {ps : List Ent} (h : SlEnt w A n c ps) (hb : Below w.heap.size w w') : SlEnt w' A n c ps :=
  ⟨(h.pths.keep hb).up hb.size, h.bare, h.cap, h.wf⟩
/-- few and short. -/
def SmallEnt (ps : List Ent) : Prop := ps.length ≤ 1048576 ∧ ∀ j, j < ps.length → (entA ps j).lights.length ≤ 1048576
theorem SmallEnt.at {ps : List Ent} (h : SmallEnt ps) (n M : Nat) (hn : n = ps.length) (hM : 1048576 ≤ M) : ∀ j, j < n → (entA ps j).lights.length ≤ M := fun j hj => Nat.le_trans (h.2 j (by omega)) hM
theorem law_toEntry (A : Option Addr) (n c B : Nat) (zs : List Int) (x0 : Int) (x2 : Int) (w : World) (h : IntsAt .i64 w B A n zs) (hB : B ≤ w.heap.size) (hn : n ≤ 1048576) :
    Calls Try.prog 69 #[.agg #[.int .i64 x0, .slice A n c, .int .i64 x2]] w fun e w' => ∃ a, e = .returned (.agg #[.int .i64 x0, .slice (some a) n n, .int .i64 x2]) ∧ Own .i64 3 w' w.heap.size (.slice (some a) n n) zs ∧ Below w.heap.size w w' := by
  have hi := fun w' (hb : Below w.heap.size w w') => h.laid hB hb
  have hb0 := (((Below.refl w.heap.size w).alloc (Nat.le_refl _) (.cells #[.int .i64 x0, .slice A n c, .int .i64 x2] 89)).alloc (by simp) (.cells #[.int .i64 0, .slice none 0 0, .int .i64 0] 91)).alloc (by simp; omega) (.cells #[.int .i64 x0, .slice none 0 0, .int .i64 0] 91)
  have hs0 := hb0.size
  have HI := Lib.hid hi
  have HB0 := Lib.hid hb0
  clear hi
  go_enter Try.func69, Try.ntmps69
  go_wp2_with fail
  refine (to_i64 A n c B zs _ (HI.out _ HB0.out) (by have := HB0.out.size; omega) (by omega)).mono ?_
  rintro e w2 ⟨rfl, ho, hb2⟩
  have HB := Lib.hid (HB0.out.trans (hb2.mono hs0))
  have k0 : w2.cell? ⟨w.heap.size, 2, none⟩ = some (.int .i64 x2) := (hb2.cell (p := ⟨w.heap.size, 2, none⟩) (by simp; try omega)).trans (by go_simp)
  have k1 : w2.cell? ⟨w.heap.size + 1, 0, none⟩ = some (.int .i64 0) := (hb2.cell (p := ⟨w.heap.size + 1, 0, none⟩) (by simp; try omega)).trans (by go_simp)
  have k2 : w2.cell? ⟨w.heap.size + 1, 1, none⟩ = some (.slice none 0 0) := (hb2.cell (p := ⟨w.heap.size + 1, 1, none⟩) (by simp; try omega)).trans (by go_simp)
  have k3 : w2.cell? ⟨w.heap.size + 1, 2, none⟩ = some (.int .i64 0) := (hb2.cell (p := ⟨w.heap.size + 1, 2, none⟩) (by simp; try omega)).trans (by go_simp)
  have k4 : w2.cell? ⟨w.heap.size + 1 + 1, 0, none⟩ = some (.int .i64 x0) := (hb2.cell (p := ⟨w.heap.size + 1 + 1, 0, none⟩) (by simp; try omega)).trans (by go_simp)
  have k5 : w2.cell? ⟨w.heap.size + 1 + 1, 1, none⟩ = some (.slice none 0 0) := (hb2.cell (p := ⟨w.heap.size + 1 + 1, 1, none⟩) (by simp; try omega)).trans (by go_simp)
  have k6 : w2.cell? ⟨w.heap.size + 1 + 1, 2, none⟩ = some (.int .i64 0) := (hb2.cell (p := ⟨w.heap.size + 1 + 1, 2, none⟩) (by simp; try omega)).trans (by go_simp)
  have fa0 : w2.frozen? ⟨w.heap.size + 1, 0, none⟩ = false := (hb2.frozen (p := ⟨w.heap.size + 1, 0, none⟩) (by simp; try omega)).trans (by go_simp)
  have fa1 : w2.frozen? ⟨w.heap.size + 1, 1, none⟩ = false := (hb2.frozen (p := ⟨w.heap.size + 1, 1, none⟩) (by simp; try omega)).trans (by go_simp)
  have fa2 : w2.frozen? ⟨w.heap.size + 1, 2, none⟩ = false := (hb2.frozen (p := ⟨w.heap.size + 1, 2, none⟩) (by simp; try omega)).trans (by go_simp)
  have fb1 : w2.frozen? ⟨w.heap.size + 1 + 1, 1, none⟩ = false := (hb2.frozen (p := ⟨w.heap.size + 1 + 1, 1, none⟩) (by simp; try omega)).trans (by go_simp)
  have fb2 : w2.frozen? ⟨w.heap.size + 1 + 1, 2, none⟩ = false := (hb2.frozen (p := ⟨w.heap.size + 1 + 1, 2, none⟩) (by simp; try omega)).trans (by go_simp)
  have ho2 : Own .i64 3 w2 w.heap.size (.slice (some ⟨w.heap.size + 1 + 1 + 1, 0, none⟩) n n) zs := by
    have h2 := ho.mono hs0
    simp only [alloc_heap, Array.size_push] at h2
    exact h2
  have HO2 := Lib.hid ho2
  clear hb2 hb0 ho hs0 ho2
  go_wp2
  refine bodyPost_ret (v := .agg #[.int .i64 x0, .slice (some ⟨w.heap.size + 1 + 1 + 1, 0, none⟩) n n, .int .i64 x2]) (by rw [results_cell rfl]; go_simp; try rfl) rfl ?_
  refine ⟨_, rfl, (HO2.out.grown (only_setCell (only_setCell (World.grownBy.refl _ _) _ _) _ _) (fun g' e e2 => ?_)).grown (only_setCell (only_setCell (only_setCell (World.grownBy.refl _ _) _ _) _ _) _ _) (fun g' e e2 => ?_), (((((HB.out.setCell (by simp only; omega) _).setCell (by simp only; omega) _).setCell (by simp only; omega) _).setCell (by simp only; omega) _).setCell (by simp only; omega) _)⟩
  · have h1 : w.heap.size + 1 + 1 + 1 = g' := Option.some.inj e
    have h2 := Option.some.inj e2
    omega
  · have h1 : w.heap.size + 1 + 1 + 1 = g' := Option.some.inj e
    have h2 := Option.some.inj e2
    omega
set_option maxHeartbeats 1000000 in
theorem to_ent (A : Option Addr) (n c B : Nat) (ps : List Ent) (w : World) (h : EntsAt w B A n ps) (hB : B ≤ w.heap.size) (hn : n ≤ 1048576) (hm : ∀ j, j < n → (entA ps j).lights.length ≤ 1048576) :
    Calls Try.prog 23 #[.slice A n c] w fun e w' => e = .returned (.slice (some ⟨w.heap.size, 0, none⟩) n n) ∧ (∃ xs, OwnEnt w' w.heap.size (.slice (some ⟨w.heap.size, 0, none⟩) n n) xs ps) ∧ Below w.heap.size w w' := by
  have hl := h.1
  go_enter Try.func23, Try.ntmps23
  go_wp2_with ((with_reducible show wpList _ _ _ _ _ _); refine wpList_mkR rfl _ _ _ rfl 91 _ 3 _ Try.underlying38 info_ent (by decide) (n : Int) (n : Int) n rfl rfl rfl rfl (by omega) ?_; intro w1 hown hgrow)
  rw [made_ent] at hown
  go_loopw [4] (fun i wr => ∃ (k : Nat) (xs : List (Value × Ent)), k ≤ n ∧ xs.length = k ∧ i = .int .i64 k ∧ wr.ownsRow w.heap.size 91 3 (.slice (some ⟨w.heap.size, 0, none⟩) n n) n (entrow xs ++ entrow (List.replicate (n - xs.length) (.slice none 0 0, ent0))) ∧
      (∀ j, j < k → ∃ u, xs[j]? = some (u, entA ps j) ∧ Own .i64 3 wr w.heap.size u (entA ps j).lights) ∧ ApartL (xs.map (·.1)) ∧ Below w.heap.size w wr) (fun i _ => n - (intOf i).toNat)
  case atStart => exact ⟨0, [], Nat.zero_le _, rfl, rfl, by simpa [entrow] using hown, fun j hj => absurd hj (by omega), ApartL.nil, below_grown hgrow⟩
  case round =>
    clear hown hgrow
    obtain ⟨k, xs, hk, hul, rfl, hrow, heach, hap, hbl⟩ := hrel
    have hsz := hbl.size
    by_cases hlt : k < n
    · obtain ⟨ad, A', m, c', rfl, hab, hq, hi, hmc, hnil⟩ := h.at hlt
      obtain ⟨q0, q1, q2⟩ := hq.below hbl (by omega)
      have hml := hi.1
      have hmk := hm k hlt
      have hiw := hi.keep (w' := wr) (fun p hp => hbl.cell (by omega))
      clear hq hi
      go_wp2_with fail
      refine (law_toEntry A' m c' B (entA ps k).lights (entA ps k).second (entA ps k).mac wr hiw (by omega) (by omega)).mono ?_
      rintro e w2 ⟨a, rfl, ho, hb2⟩
      have hrow2 := ownr_below hrow hb2
      obtain ⟨y0, hy0⟩ := ownr_some hrow2 (j := k * 3) (by omega)
      obtain ⟨y1, hy1⟩ := ownr_some hrow2 (j := k * 3 + 1) (by omega)
      obtain ⟨y2, hy2⟩ := ownr_some hrow2 (j := k * 3 + 2) (by omega)
      have f0 := World.ownsRow.frozenAt hrow2
      have hst := (World.ownsRow.stored (World.ownsRow.stored (World.ownsRow.stored hrow2 (k * 3) (.int .i64 (entA ps k).second)).1 (k * 3 + 1) (.slice (some a) m m)).1 (k * 3 + 2) (.int .i64 (entA ps k).mac)).1
      have hb3 := hbl.trans (hb2.mono hsz)
      have hgs : w2.grownBy (((w2.setCell ⟨w.heap.size, k * 3, none⟩ (.int .i64 (entA ps k).second)).setCell ⟨w.heap.size, k * 3 + 1, none⟩ (.slice (some a) m m)).setCell ⟨w.heap.size, k * 3 + 2, none⟩ (.int .i64 (entA ps k).mac)) (some w.heap.size) := only_setCell (only_setCell (only_setCell (World.grownBy.refl _ _) _ _) _ _) _ _
      have hkept : ∀ {x : Value} {xs : List Int} {l : Nat}, Own .i64 3 w2 l x xs → Own .i64 3 (((w2.setCell ⟨w.heap.size, k * 3, none⟩ (.int .i64 (entA ps k).second)).setCell ⟨w.heap.size, k * 3 + 1, none⟩ (.slice (some a) m m)).setCell ⟨w.heap.size, k * 3 + 2, none⟩ (.int .i64 (entA ps k).mac)) l x xs := fun hx => hx.grown hgs (fun g hg e => own_apart_ent hx hrow2 g hg e)
      have hsn : xs.length < n := by omega
      have hnx := entrow_next xs n (.slice none 0 0, ent0) (.slice (some a) m m, entA ps k) hsn
      rw [hul] at hnx
      simp only at hnx
      rw [hul] at hst
      rw [hnx] at hst
      have HR := Lib.hid hst
      have HE : Hid (∀ j, j < k + 1 → ∃ u, (xs ++ [(.slice (some a) m m, entA ps k)])[j]? = some (u, entA ps j) ∧ Own .i64 3 (((w2.setCell ⟨w.heap.size, k * 3, none⟩ (.int .i64 (entA ps k).second)).setCell ⟨w.heap.size, k * 3 + 1, none⟩ (.slice (some a) m m)).setCell ⟨w.heap.size, k * 3 + 2, none⟩ (.int .i64 (entA ps k).mac)) w.heap.size u (entA ps j).lights) := Lib.hid (by
        intro j hj
        by_cases hjk : j < k
        · obtain ⟨u, h1, h2⟩ := heach j hjk
          exact ⟨u, by rw [List.getElem?_append_left (by omega)]; exact h1, hkept (h2.below hb2)⟩
        · obtain rfl : j = xs.length := by omega
          refine ⟨_, (List.getElem?_append_right (Nat.le_refl _)).trans (by rw [Nat.sub_self, show xs.length = k from hul]; rfl), ?_⟩
          rw [show xs.length = k from hul]
          exact hkept (ho.mono hsz))
      have HA : Hid (ApartL ((xs ++ [((Value.slice (some a) m m), entA ps k)]).map (·.1))) := Lib.hid (by
        rw [List.map_append]
        refine hap.snoc (b := wr.heap.size) (fun x hx g hg => ?_) (fun g hg => (ho.block g hg).1)
        obtain ⟨y, hy, rfl⟩ := List.mem_map.1 hx
        obtain ⟨j, hj, rfl⟩ := List.getElem_of_mem hy
        obtain ⟨u, h1, h2⟩ := heach j (by omega)
        rw [List.getElem?_eq_getElem hj] at h1
        injection h1 with h1
        rw [h1] at hg
        exact (h2.block g hg).2)
      have HB := Lib.hid hb3
      clear hrow heach hap hbl hb2 hb3 hgs hkept hst hrow2 ho hiw hnx
      go_wp2
      go_roundw
      case rel => exact ⟨k + 1, xs ++ [(.slice (some a) m m, entA ps k)], by omega, by rw [List.length_append, hul]; rfl, by go_num, HR.out, HE.out, HA.out, (((HB.out.setCell (Nat.le_refl _) _).setCell (Nat.le_refl _) _).setCell (Nat.le_refl _) _)⟩
      case measure => simp [intOf]; omega
    · obtain rfl : k = n := by omega
      rw [hul, Nat.sub_self, List.replicate_zero] at hrow
      have HO : Hid (OwnEnt wr w.heap.size (.slice (some ⟨w.heap.size, 0, none⟩) k k) xs ps) := Lib.hid ⟨by rw [hl]; simpa [entrow] using hrow, fun j hj => heach j (by omega), hap⟩
      clear hrow heach hap
      go_wp2
      go_ret
      exact ⟨rfl, ⟨xs, HO.out⟩, hbl⟩
set_option maxHeartbeats 1000000 in
theorem law_eqEntry (A : Option Addr) (n c B : Nat) (zs : List Int) (x0 : Int) (x2 : Int) (A2 : Option Addr) (n2 c2 : Nat) (w : World) (h : IntsAt .i64 w B A n zs) (h2 : IntsAt .i64 w B A2 n2 zs) (hB : B ≤ w.heap.size) (hn : n ≤ 4398046511104) :
    Calls Try.prog 74 #[.agg #[.int .i64 x0, .slice A n c, .int .i64 x2], .agg #[.int .i64 x0, .slice A2 n2 c2, .int .i64 x2]] w fun e w' => e = .returned (.bool true) ∧ Below w.heap.size w w' := by
  have hl := h.1
  have hl2 := h2.1
  have hq := fun w' (hb : Below w.heap.size w w') => eqs_i64 A n c zs A2 n2 c2 w' ((h.laid hB hb).up (by have := hb.size; omega)) ((h2.laid hB hb).up (by have := hb.size; omega)) (by omega) (by omega)
  have hb0 := ((Below.refl w.heap.size w).alloc (Nat.le_refl _) (.cells #[.int .i64 x0, .slice A n c, .int .i64 x2] 91)).alloc (by simp) (.cells #[.int .i64 x0, .slice A2 n2 c2, .int .i64 x2] 91)
  have HQ := Lib.hid hq
  have HB0 := Lib.hid hb0
  clear hq hb0 h h2
  have e0 : (x0 != x0) = false := by simp
  have g0 : (!(x0 == x0)) = false := by simp
  have e2 : (x2 != x2) = false := by simp
  have g2 : (!(x2 == x2)) = false := by simp
  go_enter Try.func74, Try.ntmps74
  go_wp2_with fail
  refine (HQ.out _ HB0.out).mono ?_
  rintro e w2 ⟨rfl, hb2⟩
  have HB := Lib.hid (HB0.out.trans (hb2.mono HB0.out.size))
  have k0 : w2.cell? ⟨w.heap.size, 2, none⟩ = some (.int .i64 x2) := (hb2.cell (p := ⟨w.heap.size, 2, none⟩) (by simp; try omega)).trans (by go_simp)
  have k1 : w2.cell? ⟨w.heap.size + 1, 2, none⟩ = some (.int .i64 x2) := (hb2.cell (p := ⟨w.heap.size + 1, 2, none⟩) (by simp; try omega)).trans (by go_simp)
  clear hb2
  go_wp2
  go_ret
  exact ⟨rfl, HB.out⟩
set_option maxHeartbeats 1000000 in
theorem eqs_ent (A : Option Addr) (n c : Nat) (ps : List Ent) (A2 : Option Addr) (n2 c2 : Nat) (w : World) (h : EntsAt w w.heap.size A n ps) (h2 : EntsAt w w.heap.size A2 n2 ps) (hn : n ≤ 4398046511104) (hn2 : n2 ≤ 4398046511104) (hm : ∀ j, j < n → (entA ps j).lights.length ≤ 4398046511104) :
    Calls Try.prog 25 #[.slice A n c, .slice A2 n2 c2] w fun e w' => e = .returned (.bool true) ∧ Below w.heap.size w w' := by
  have hl := h.1
  have hl2 := h2.1
  obtain rfl : n = n2 := by omega
  go_enter Try.func25, Try.ntmps25
  go_wp2
  go_loopw [5] (fun i wr => ∃ k : Nat, k ≤ n ∧ i = .int .i64 k ∧ Below w.heap.size w wr) (fun i _ => n - (intOf i).toNat)
  case atStart => exact ⟨0, Nat.zero_le _, rfl, Below.refl _ _⟩
  case round =>
    obtain ⟨k, hk, rfl, hbl⟩ := hrel
    have hsz := hbl.size
    by_cases hlt : k < n
    · obtain ⟨ad, A', m, c', rfl, hab, hq, hi, hmc, hnil⟩ := h.at hlt
      obtain ⟨ad2, A2', m2, c2', rfl, hab2, hq2, hi2, hmc2, hnil2⟩ := h2.at hlt
      have hqq := fun x (hx : Below wr.heap.size wr x) => (hq.below hbl (by omega)).below hx (by omega)
      have hqq2 := fun x (hx : Below wr.heap.size wr x) => (hq2.below hbl (by omega)).below hx (by omega)
      have hmk := hm k hlt
      have hml := hi.1
      have hml2 := hi2.1
      have hiw := hi.keep (w' := wr) (fun p hp => hbl.cell (by omega))
      have hiw2 := hi2.keep (w' := wr) (fun p hp => hbl.cell (by omega))
      clear hq hq2 hi hi2
      generalize entA ps k = pk at *
      obtain ⟨x0, zs, x2⟩ := pk
      simp only at *
      have hcc := fun x (hx : Below wr.heap.size wr x) => law_eqEntry A' m c' w.heap.size zs x0 x2 A2' m2 c2' x (hiw.keep (w' := x) fun p hp => hx.cell (by omega)) (hiw2.keep (w' := x) fun p hp => hx.cell (by omega)) (by have := hx.size; omega) (by omega)
      have i1 : (0 : Int) ≤ (k : Int) := by omega
      have i2 : (k : Int) < (n : Int) := by omega
      have hdr : Below wr.heap.size wr wr.drew := ⟨rfl, rfl, rfl, Nat.le_refl _, fun _ _ => rfl⟩
      obtain ⟨y0, y1, y2⟩ := hqq _ hdr
      obtain ⟨z0, z1, z2⟩ := hqq2 _ hdr
      have HQ := Lib.hid hcc
      have HC := Lib.hid hqq
      have HC2 := Lib.hid hqq2
      clear hqq hqq2 hcc hiw hiw2
      go_wp2
      go_region_held3 (fun W' => W'.cell? (ad.add (k * 3)) = some (.int .i64 x0) ∧ W'.cell? ⟨(ad.add (k * 3)).block, (ad.add (k * 3)).off + 1, none⟩ = some (.slice A' m c') ∧ W'.cell? ⟨(ad.add (k * 3)).block, (ad.add (k * 3)).off + 2, none⟩ = some (.int .i64 x2) ∧ W'.cell? (ad2.add (k * 3)) = some (.int .i64 x0) ∧ W'.cell? ⟨(ad2.add (k * 3)).block, (ad2.add (k * 3)).off + 1, none⟩ = some (.slice A2' m2 c2') ∧ W'.cell? ⟨(ad2.add (k * 3)).block, (ad2.add (k * 3)).off + 2, none⟩ = some (.int .i64 x2)) (first | exact ⟨y0, y1, y2, z0, z1, z2⟩ | exact ⟨hy.c0, hy.c1, hy.c2, hz.c0, hz.c1, hz.c2⟩ | fail "keep")
        (first
          | (go_at_call 74; refine (HQ.out _ hdr).mono ?_; rintro e w3 ⟨rfl, hb3⟩; have hb4 := hdr.trans hb3; have hy := HC.out _ hb4; have hz := HC2.out _ hb4))
      have HB := Lib.hid (hbl.trans (hb4.mono hsz))
      clear hb3 hb4 y0 y1 y2 z0 z1 z2 hy hz hbl HQ HC HC2 hdr
      go_wp2
      go_roundw
      case rel => exact ⟨k + 1, by omega, by go_num, HB.out⟩
      case measure => simp [intOf]; omega
    · obtain rfl : k = n := by omega
      go_wp2
      go_ret
      exact ⟨rfl, hbl⟩
theorem sz1_ent (A : Option Addr) (n c : Nat) (x0 : Int) (x2 : Int) (left : Int) (w : World) (hn : n ≤ 9223372036854775807) (hl : 0 ≤ left ∧ left ≤ 1048576) :
    Calls Try.prog 64 #[.agg #[.int .i64 x0, .slice A n c, .int .i64 x2], .int .i64 left] w fun e w' => e = .returned (.int .i64 (if (n : Int) ≤ left then left - (n : Int) else -1)) ∧ Below w.heap.size w w' := by
  have HB := Lib.hid ((Below.refl w.heap.size w).alloc (Nat.le_refl _) (.cells #[.int .i64 x0, .slice A n c, .int .i64 x2] 89))
  by_cases h : (n : Int) ≤ left
  · have hz := fun x => sz_ints A n c left x hn hl
    simp only [if_pos h] at hz ⊢
    have HZ := Lib.hid hz
    clear hz
    go_enter Try.func64, Try.ntmps64
    go_wp2_with fail
    refine (HZ.out _).mono ?_
    rintro e w' ⟨rfl, rfl⟩
    go_wp2
    go_ret
    exact ⟨rfl, HB.out⟩
  · have hz := fun x => sz_ints A n c left x hn hl
    simp only [if_neg h] at hz ⊢
    have HZ := Lib.hid hz
    clear hz
    go_enter Try.func64, Try.ntmps64
    go_wp2_with fail
    refine (HZ.out _).mono ?_
    rintro e w' ⟨rfl, rfl⟩
    go_wp2
    go_ret
    exact ⟨rfl, HB.out⟩
/-- what sz says of a row. -/
def szSaidEnt (left : Int) (n : Nat) (ps : List Ent) (r : Int) : Prop := r < 0 ∨ (0 ≤ r ∧ r ≤ left ∧ (n : Int) ≤ left ∧ ∀ j, j < n → ((entA ps j).lights.length : Int) ≤ left)
set_option maxHeartbeats 1000000 in
theorem sz_ent (A : Option Addr) (n c B : Nat) (ps : List Ent) (left : Int) (w : World) (h : EntsAt w B A n ps) (hB : B ≤ w.heap.size) (hn : n ≤ 9223372036854775807) (hm : ∀ j, j < n → (entA ps j).lights.length ≤ 9223372036854775807) (hl : 0 ≤ left ∧ left ≤ 1048576) :
    Calls Try.prog 21 #[.slice A n c, .int .i64 left] w fun e w' => (∃ r : Int, e = .returned (.int .i64 r) ∧ szSaidEnt left n ps r) ∧ Below w.heap.size w w' := by
  have hl0 := h.1
  obtain ⟨l1, l2⟩ := hl
  by_cases hlt0 : (n : Int) ≤ left
  · go_enter Try.func21, Try.ntmps21
    go_wp2
    go_loopw [1, 5] (fun r i wr => ∃ (k : Nat) (q : Int), k ≤ n ∧ i = .int .i64 k ∧ r = .int .i64 q ∧ 0 ≤ q ∧ q ≤ left ∧ (∀ j, j < k → ((entA ps j).lights.length : Int) ≤ left) ∧ Below w.heap.size w wr) (fun _ i _ => n - (intOf i).toNat)
    case atStart => exact ⟨0, left - n, Nat.zero_le _, rfl, rfl, by omega, by omega, fun j hj => absurd hj (by omega), Below.refl _ _⟩
    case round =>
      obtain ⟨k, q, hk, rfl, rfl, hq0, hq1, hall, hbl⟩ := hrel
      have HALL := Lib.hid hall
      clear hall
      by_cases hlt : k < n
      · obtain ⟨ad, A', m, c', rfl, hab, hq, hi, hmc, hnil⟩ := h.at hlt
        obtain ⟨y0, y1, y2⟩ := hq.below hbl (by omega)
        have hml := hi.1
        have hmk := hm k hlt
        go_wp2_with fail
        refine (sz1_ent A' m c' _ _ q _ (by omega) ⟨hq0, by omega⟩).mono ?_
        rintro e w' ⟨rfl, hb2⟩
        have HB := Lib.hid (hbl.trans (hb2.mono hbl.size))
        clear hb2
        by_cases hle : (m : Int) ≤ q
        · rw [if_pos hle]
          have HK : Hid (((entA ps k).lights.length : Int) ≤ left) := Lib.hid (by omega)
          clear hi hml hmk
          go_wp2
          go_roundw
          case rel => exact ⟨k + 1, q - m, by omega, by go_num, rfl, by omega, by omega, (fun j hj => by
            by_cases e : j < k
            · exact HALL.out j e
            · obtain rfl : j = k := by omega
              exact HK.out), HB.out⟩
          case measure => simp [intOf]; omega
        · rw [if_neg hle]
          go_wp2
          go_ret
          exact ⟨⟨-1, rfl, .inl (by decide)⟩, HB.out⟩
      · obtain rfl : k = n := by omega
        go_wp2
        go_ret
        exact ⟨⟨q, rfl, .inr ⟨hq0, hq1, hlt0, HALL.out⟩⟩, hbl⟩
  · go_enter Try.func21, Try.ntmps21
    go_wp2
    go_ret
    exact ⟨⟨-1, rfl, .inl (by decide)⟩, Below.refl _ _⟩
end Go.Proofs.Ytblilnfkpfjclaa

/- Hashes and ciphers as numbers. No program. -/
namespace Go.Proofs.Ytblilnfkpfjclaa

/-- one step of the hash. -/
def hstep (d v : Int) : Int := (d * 1000003 + v % 2147483647 + 13) % 2147483647
theorem hstep_range (d v : Int) : 0 ≤ hstep d v ∧ hstep d v < 2147483647 := by unfold hstep; omega
/-- what Hash answers. -/
def hashI (vs : List Int) : Int := vs.foldl hstep 11
theorem hash_fold_range (vs : List Int) : ∀ d : Int, 0 ≤ d ∧ d < 2147483647 → 0 ≤ vs.foldl hstep d ∧ vs.foldl hstep d < 2147483647 := by
  induction vs with
  | nil => intro d h; exact h
  | cons v vs ih => intro d _; exact ih _ (hstep_range d v)
theorem hashI_range (vs : List Int) : 0 ≤ hashI vs ∧ hashI vs < 2147483647 := hash_fold_range vs 11 (by decide)
theorem hashI_take {vs : List Int} {k : Nat} (h : k < vs.length) : hashI (vs.take (k + 1)) = hstep (hashI (vs.take k)) (vs.getD k 0) := by
  unfold hashI
  rw [List.take_add_one, List.foldl_append, List.getD_eq_getElem?_getD, List.getElem?_eq_getElem h]
  rfl
theorem hashI_all {vs : List Int} {k : Nat} (h : vs.length = k) : hashI (vs.take k) = hashI vs := by rw [List.take_of_length_le (by omega)]
theorem mul_back {x q : Int} (h : x * 1000003 = 2147483647 * q) : ∃ y, x = 2147483647 * y := by
  refine ⟨q * 1523789695 - x * 709572, ?_⟩
  have e : (x * 1000003) * 1523789695 = (2147483647 * q) * 1523789695 := by rw [h]
  omega
theorem step_inj {c d r : Int} (hc : 0 ≤ c ∧ c < 2147483647) (hd : 0 ≤ d ∧ d < 2147483647) (h : (c * 1000003 + r) % 2147483647 = (d * 1000003 + r) % 2147483647) : c = d := by
  have h2 : (c * 1000003 + r - (d * 1000003 + r)) % 2147483647 = 0 := Int.emod_eq_emod_iff_emod_sub_eq_zero.1 h
  obtain ⟨q, hq⟩ := Int.dvd_of_emod_eq_zero h2
  have h3 : (c - d) * 1000003 = 2147483647 * q := by rw [← hq, Int.sub_mul]; omega
  obtain ⟨y, hy⟩ := mul_back h3
  clear h h2 hq h3
  omega
theorem hstep_left {c d v : Int} (hc : 0 ≤ c ∧ c < 2147483647) (hd : 0 ≤ d ∧ d < 2147483647) (h : hstep c v = hstep d v) : c = d := by
  unfold hstep at h
  rw [Int.add_assoc, Int.add_assoc (d * 1000003)] at h
  exact step_inj hc hd h
theorem hstep_right {d v u : Int} (h : hstep d v = hstep d u) : v % 2147483647 = u % 2147483647 := by
  unfold hstep at h
  omega
theorem hash_fold_inj (vs : List Int) : ∀ c d : Int, 0 ≤ c ∧ c < 2147483647 → 0 ≤ d ∧ d < 2147483647 → vs.foldl hstep c = vs.foldl hstep d → c = d := by
  induction vs with
  | nil => intro c d _ _ h; exact h
  | cons v vs ih => intro c d hc hd h; exact hstep_left hc hd (ih _ _ (hstep_range c v) (hstep_range d v) h)
/-- one value that differs modulo the modulus changes the hash. -/
theorem hash_differs (pre post : List Int) (v u : Int) (h : v % 2147483647 ≠ u % 2147483647) : hashI (pre ++ v :: post) ≠ hashI (pre ++ u :: post) := by
  unfold hashI
  rw [List.foldl_append, List.foldl_append, List.foldl_cons, List.foldl_cons]
  intro e
  exact h (hstep_right (hash_fold_inj post _ _ (hstep_range _ _) (hstep_range _ _) e))
/-- what KeyedHash answers. -/
def khash (k : Int) (vs : List Int) : Int := hashI (k :: (vs ++ [k]))
theorem khash_range (k : Int) (vs : List Int) : 0 ≤ khash k vs ∧ khash k vs < 2147483647 := hashI_range _
/-- what BytesToInts answers. -/
def toNums (zs : List Int) : List Int := (zs.length : Int) :: zs
/-- the key stream at place i. -/
def kstream (k : Int) (i : Nat) : Int := khash k [(i : Int)] % 256
/-- what Encrypt and Decrypt answer. -/
def encr (k : Int) (zs : List Int) : List Int := zs.mapIdx fun i z => (z + kstream k i) % 256
def decr (k : Int) (zs : List Int) : List Int := zs.mapIdx fun i z => (z - kstream k i) % 256
theorem encr_byte (k : Int) (zs : List Int) : ∀ z ∈ encr k zs, 0 ≤ z ∧ z ≤ 255 := by
  intro z hz
  obtain ⟨i, _, rfl⟩ := List.mem_mapIdx.1 hz
  omega
theorem decr_byte (k : Int) (zs : List Int) : ∀ z ∈ decr k zs, 0 ≤ z ∧ z ≤ 255 := by
  intro z hz
  obtain ⟨i, _, rfl⟩ := List.mem_mapIdx.1 hz
  omega
theorem encr_length (k : Int) (zs : List Int) : (encr k zs).length = zs.length := by simp [encr]
theorem decr_length (k : Int) (zs : List Int) : (decr k zs).length = zs.length := by simp [decr]
theorem decr_encr {k : Int} {zs : List Int} (h : ∀ z ∈ zs, 0 ≤ z ∧ z ≤ 255) : decr k (encr k zs) = zs := by
  unfold decr encr
  rw [List.mapIdx_mapIdx]
  apply List.ext_getElem?
  intro i
  rw [List.getElem?_mapIdx]
  cases hi : zs[i]? with
  | none => rfl
  | some z =>
    have hz := h z (List.mem_of_getElem? hi)
    simp only [Option.map_some, Function.comp, Option.some.injEq]
    omega
theorem encr_decr {k : Int} {zs : List Int} (h : ∀ z ∈ zs, 0 ≤ z ∧ z ≤ 255) : encr k (decr k zs) = zs := by
  unfold decr encr
  rw [List.mapIdx_mapIdx]
  apply List.ext_getElem?
  intro i
  rw [List.getElem?_mapIdx]
  cases hi : zs[i]? with
  | none => rfl
  | some z =>
    have hz := h z (List.mem_of_getElem? hi)
    simp only [Option.map_some, Function.comp, Option.some.injEq]
    omega
theorem encr_take {k : Int} {zs : List Int} {i : Nat} (h : i < zs.length) : encr k (zs.take (i + 1)) = encr k (zs.take i) ++ [(zs.getD i 0 + kstream k i) % 256] := by
  unfold encr
  rw [List.take_add_one, List.getElem?_eq_getElem h, Option.toList_some, List.mapIdx_append, List.getD_eq_getElem?_getD, List.getElem?_eq_getElem h]
  simp [List.length_take, Nat.min_eq_left (Nat.le_of_lt h)]
theorem decr_take {k : Int} {zs : List Int} {i : Nat} (h : i < zs.length) : decr k (zs.take (i + 1)) = decr k (zs.take i) ++ [(zs.getD i 0 - kstream k i) % 256] := by
  unfold decr
  rw [List.take_add_one, List.getElem?_eq_getElem h, Option.toList_some, List.mapIdx_append, List.getD_eq_getElem?_getD, List.getElem?_eq_getElem h]
  simp [List.length_take, Nat.min_eq_left (Nat.le_of_lt h)]
theorem encr_all {k : Int} {zs : List Int} {i : Nat} (h : zs.length = i) : encr k (zs.take i) = encr k zs := by rw [List.take_of_length_le (by omega)]
theorem decr_all {k : Int} {zs : List Int} {i : Nat} (h : zs.length = i) : decr k (zs.take i) = decr k zs := by rw [List.take_of_length_le (by omega)]
/-- what DeriveFromString answers. -/
def derive (k : Int) (zs : List Int) : Int := if khash k (toNums zs) = 0 then 1 else khash k (toNums zs)
theorem derive_range (k : Int) (zs : List Int) : 1 ≤ derive k zs ∧ derive k zs ≤ 2147483646 := by
  have h := khash_range k (toNums zs)
  unfold derive
  split <;> omega
end Go.Proofs.Ytblilnfkpfjclaa

/- Chapter 27: records as data. No program. -/
namespace Go.Proofs.Ytblilnfkpfjclaa
open Go.RowKit
set_option linter.unusedVariables false

/-- the seal of an entry behind a seal. -/
def sealI (b s : Int) (ls : List Int) : Int := hashI (b :: s :: ls)
/-- the seal that the entry before the k-th bears. -/
def prevM (zs : List Ent) (k : Nat) : Int := if k = 0 then 0 else (entA zs (k - 1)).mac
/-- whether the k-th stands well behind the one before. -/
def behE (zs : List Ent) (k : Nat) : Bool := decide (k = 0) || (decide ((entA zs (k - 1)).second < (entA zs k).second) && decide ((entA zs k).lights.length = (entA zs (k - 1)).lights.length))
def litsOk (ls : List Int) : Bool := ls.all (fun z => inB z 0 2)
def entOk (zs : List Ent) (k : Nat) : Bool := (inB (entA zs k).second 0 1000000 && decide ((entA zs k).lights.length ≤ 12) && litsOk (entA zs k).lights) && behE zs k && decide ((entA zs k).mac = sealI (prevM zs k) (entA zs k).second (entA zs k).lights)
/-- what IsRecord answers. -/
def isRec (zs : List Ent) : Bool := decide (zs.length ≤ 60) && (List.range zs.length).all (entOk zs)
theorem isRec_no {zs : List Ent} {k : Nat} (hk : k < zs.length) (h : entOk zs k = false) : isRec zs = false := by
  unfold isRec
  rw [List.all_eq_false.2 ⟨k, List.mem_range.2 hk, by rw [h]; simp⟩, Bool.and_false]
theorem isRec_end {zs : List Ent} (h : ∀ i, i < zs.length → entOk zs i = true) : isRec zs = decide (zs.length ≤ 60) := by
  unfold isRec
  rw [List.all_eq_true.2 (fun i hi => h i (List.mem_range.1 hi)), Bool.and_true]
theorem isRec_long {zs : List Ent} (h : 60 < zs.length) : isRec zs = false := by unfold isRec; rw [decide_eq_false (by omega), Bool.false_and]
theorem isRec_parts {zs : List Ent} (h : isRec zs = true) : zs.length ≤ 60 ∧ ∀ i, i < zs.length → entOk zs i = true := by
  unfold isRec at h
  rw [Bool.and_eq_true, decide_eq_true_eq, List.all_eq_true] at h
  exact ⟨h.1, fun i hi => h.2 i (List.mem_range.2 hi)⟩
theorem entOk_parts {zs : List Ent} {k : Nat} (h : entOk zs k = true) : (inB (entA zs k).second 0 1000000 = true ∧ (entA zs k).lights.length ≤ 12 ∧ litsOk (entA zs k).lights = true) ∧ (k = 0 ∨ ((entA zs (k - 1)).second < (entA zs k).second ∧ (entA zs k).lights.length = (entA zs (k - 1)).lights.length)) ∧ (entA zs k).mac = sealI (prevM zs k) (entA zs k).second (entA zs k).lights := by
  unfold entOk behE at h
  simpa [and_assoc] using h
theorem entOk_mk {zs : List Ent} {k : Nat} (h1 : inB (entA zs k).second 0 1000000 = true) (h2 : (entA zs k).lights.length ≤ 12) (h3 : litsOk (entA zs k).lights = true) (h4 : k = 0 ∨ ((entA zs (k - 1)).second < (entA zs k).second ∧ (entA zs k).lights.length = (entA zs (k - 1)).lights.length)) (h5 : (entA zs k).mac = sealI (prevM zs k) (entA zs k).second (entA zs k).lights) : entOk zs k = true := by
  unfold entOk behE
  rw [h1, h3, decide_eq_true h2, decide_eq_true h5]
  simpa using h4
theorem entOk_sec {zs : List Ent} {k : Nat} (h : inB (entA zs k).second 0 1000000 = false) : entOk zs k = false := by unfold entOk; rw [h]; simp
theorem entOk_len {zs : List Ent} {k : Nat} (h : ¬ (entA zs k).lights.length ≤ 12) : entOk zs k = false := by unfold entOk; rw [decide_eq_false h]; simp
theorem entOk_lit {zs : List Ent} {k : Nat} (h : litsOk (entA zs k).lights = false) : entOk zs k = false := by unfold entOk; rw [h]; simp
theorem entOk_beh {zs : List Ent} {k : Nat} (hk : k ≠ 0) (h : ¬ ((entA zs (k - 1)).second < (entA zs k).second ∧ (entA zs k).lights.length = (entA zs (k - 1)).lights.length)) : entOk zs k = false := by
  cases e : entOk zs k
  · rfl
  · rcases (entOk_parts e).2.1 with h0 | h0
    · exact absurd h0 hk
    · exact absurd h0 h
theorem entOk_mac {zs : List Ent} {k : Nat} (h : (entA zs k).mac ≠ sealI (prevM zs k) (entA zs k).second (entA zs k).lights) : entOk zs k = false := by unfold entOk; rw [decide_eq_false h]; simp
/-- all have as many lights as the first one. -/
theorem rec_len {zs : List Ent} : ∀ {k : Nat}, (∀ j, j < k → entOk zs j = true) → ∀ j, j < k → (entA zs j).lights.length = (entA zs 0).lights.length := by
  intro k h j
  induction j with
  | zero => intro _; rfl
  | succ j ih =>
    intro hj
    rcases (entOk_parts (h (j + 1) hj)).2.1 with h0 | h0
    · omega
    · rw [h0.2, Nat.add_sub_cancel]; exact ih (by omega)
/-- the seconds ascend. -/
theorem rec_sec {zs : List Ent} {k : Nat} (h : ∀ j, j < k → entOk zs j = true) : ∀ i j, i < j → j < k → (entA zs i).second < (entA zs j).second := by
  intro i j hij
  induction j with
  | zero => omega
  | succ j ih =>
    intro hj
    have hs : (entA zs j).second < (entA zs (j + 1)).second := by
      rcases (entOk_parts (h (j + 1) hj)).2.1 with h0 | h0
      · omega
      · rw [Nat.add_sub_cancel] at h0; exact h0.1
    rcases Nat.lt_or_ge i j with h1 | h1
    · exact Int.lt_trans (ih h1 (by omega)) hs
    · obtain rfl : i = j := by omega
      exact hs
/-- the index of the last entry, of the first k, that is not behind a second; -1 if there is none. -/
def atK (zs : List Ent) (s : Int) : Nat → Int
  | 0 => -1
  | k + 1 => if (entA zs k).second ≤ s then (k : Int) else atK zs s k
/-- the entry that a record knows of a second. -/
def atE (zs : List Ent) (s : Int) : Int := if isRec zs then atK zs s zs.length else -1
theorem atK_bound (zs : List Ent) (s : Int) : ∀ k : Nat, -1 ≤ atK zs s k ∧ atK zs s k < k
  | 0 => by simp [atK]
  | k + 1 => by
    have := atK_bound zs s k
    have e : atK zs s (k + 1) = if (entA zs k).second ≤ s then (k : Int) else atK zs s k := rfl
    rw [e]
    split <;> omega
theorem atE_bound (zs : List Ent) (s : Int) : -1 ≤ atE zs s ∧ atE zs s < zs.length := by
  have := atK_bound zs s zs.length
  unfold atE
  split <;> omega
theorem atE_no {zs : List Ent} {s : Int} (h : isRec zs = false) : atE zs s = -1 := by unfold atE; rw [h]; rfl
theorem atE_yes {zs : List Ent} {s : Int} (h : isRec zs = true) : atE zs s = atK zs s zs.length := by unfold atE; rw [h]; rfl
/-- where the seconds ascend the search's end is the last one that is not behind. -/
theorem atK_cut {zs : List Ent} {s : Int} {m : Nat} : ∀ {k : Nat}, m ≤ k → (∀ j, j < m → (entA zs j).second ≤ s) → (∀ j, m ≤ j → j < k → ¬ (entA zs j).second ≤ s) → atK zs s k = (m : Int) - 1
  | 0, hm, h1, h2 => by obtain rfl : m = 0 := by omega
                        simp [atK]
  | k + 1, hm, h1, h2 => by
    have e : atK zs s (k + 1) = if (entA zs k).second ≤ s then (k : Int) else atK zs s k := rfl
    rw [e]
    by_cases e : m = k + 1
    · subst e
      rw [if_pos (h1 k (by omega))]
      omega
    · rw [if_neg (h2 k (by omega) (by omega))]
      exact atK_cut (by omega) h1 (fun j hj hk => h2 j hj (by omega))
/-- the light with an index that an entry shows; -1 if there is none. -/
def litE (zs : List Ent) (i : Int) (e : Int) : Int := if e < 0 ∨ inB i 0 (((entA zs 0).lights.length : Int) - 1) = false then -1 else (entA zs e.toNat).lights.getD i.toNat 0
/-- what LightShown answers. -/
def shownL (zs : List Ent) (i s : Int) : Int := litE zs i (atE zs s)
/-- what ShownAt answers. -/
def shownA (zs : List Ent) (s : Int) : List Int × Bool := if atE zs s < 0 then ([], false) else ((entA zs (atE zs s).toNat).lights, true)
end Go.Proofs.Ytblilnfkpfjclaa

/- Chapter 28: witnesses as data. No program. -/
namespace Go.Proofs.Ytblilnfkpfjclaa
open Go.RowKit
set_option linter.unusedVariables false

/-- what a witness knows. -/
def recZ (zs : List Ent) : List Ent := if isRec zs then zs else []
theorem recZ_yes {zs : List Ent} (h : isRec zs = true) : recZ zs = zs := by unfold recZ; rw [h]; rfl
theorem recZ_no {zs : List Ent} (h : isRec zs = false) : recZ zs = [] := by unfold recZ; rw [h]; rfl
theorem recZ_ok (zs : List Ent) : ∀ i, i < (recZ zs).length → entOk (recZ zs) i = true := by
  cases h : isRec zs
  · rw [recZ_no h]; intro i hi; exact absurd hi (by simp)
  · rw [recZ_yes h]; exact (isRec_parts h).2
theorem recZ_len (zs : List Ent) : (recZ zs).length ≤ 60 := by
  cases h : isRec zs
  · rw [recZ_no h]; simp
  · rw [recZ_yes h]; exact (isRec_parts h).1
theorem recZ_le (zs : List Ent) : (recZ zs).length ≤ zs.length := by
  cases h : isRec zs
  · rw [recZ_no h]; simp
  · rw [recZ_yes h]; exact Nat.le_refl _
theorem atE_recZ (zs : List Ent) (s : Int) : atE zs s = atK (recZ zs) s (recZ zs).length := by
  cases h : isRec zs
  · rw [recZ_no h, atE_no h]; rfl
  · rw [recZ_yes h, atE_yes h]
def hasL (zs : List Ent) (i : Int) : Bool := inB i 0 (((entA zs 0).lights.length : Int) - 1)
theorem hasL_nil (i : Int) : hasL [] i = false := by
  unfold hasL
  cases h : inB i 0 (((entA [] 0).lights.length : Int) - 1)
  · rfl
  · have := inB_t h
    have e : (entA [] 0).lights.length = 0 := rfl
    rw [e] at this
    omega
theorem litE_neg {zs : List Ent} {i e : Int} (h : e < 0) : litE zs i e = -1 := by unfold litE; rw [if_pos (.inl h)]
theorem litE_no {zs : List Ent} {i e : Int} (h : hasL zs i = false) : litE zs i e = -1 := by unfold litE; rw [if_pos (.inr h)]
theorem litE_yes {zs : List Ent} {j : Nat} {k : Nat} (h : hasL zs j = true) : litE zs j k = (entA zs k).lights.getD j 0 := by
  unfold litE
  rw [if_neg]
  · simp
  · intro h2
    rcases h2 with h2 | h2
    · omega
    · unfold hasL at h; rw [h] at h2; cases h2
theorem shownL_recZ (zs : List Ent) (i s : Int) : shownL zs i s = litE (recZ zs) i (atK (recZ zs) s (recZ zs).length) := by
  unfold shownL
  rw [atE_recZ]
  cases h : isRec zs
  · rw [recZ_no h]
    have e : atK ([] : List Ent) s ([] : List Ent).length = -1 := rfl
    rw [e, litE_neg (by omega), litE_neg (by omega)]
  · rw [recZ_yes h]
/-- how many of the first k entries have another light than the one before. -/
def chgK (zs : List Ent) (i : Int) : Nat → Int
  | 0 => 0
  | k + 1 => if k ≠ 0 ∧ litE zs i k ≠ litE zs i ((k : Int) - 1) then chgK zs i k + 1 else chgK zs i k
def chgN (zs : List Ent) (i : Int) : Int := chgK (recZ zs) i (recZ zs).length
theorem chgK_bound (zs : List Ent) (i : Int) : ∀ k : Nat, 0 ≤ chgK zs i k ∧ chgK zs i k ≤ k
  | 0 => by simp [chgK]
  | k + 1 => by
    have := chgK_bound zs i k
    have e : chgK zs i (k + 1) = if k ≠ 0 ∧ litE zs i k ≠ litE zs i ((k : Int) - 1) then chgK zs i k + 1 else chgK zs i k := rfl
    rw [e]
    split <;> omega
theorem chgK_yes {zs : List Ent} {i : Int} {k : Nat} (h0 : k ≠ 0) (h : litE zs i k ≠ litE zs i ((k : Int) - 1)) : chgK zs i (k + 1) = chgK zs i k + 1 := by
  show (if _ then _ else _) = _
  rw [if_pos ⟨h0, h⟩]
theorem chgK_no {zs : List Ent} {i : Int} {k : Nat} (h : k = 0 ∨ litE zs i k = litE zs i ((k : Int) - 1)) : chgK zs i (k + 1) = chgK zs i k := by
  show (if _ then _ else _) = _
  rw [if_neg]
  rintro ⟨h1, h2⟩
  rcases h with h | h
  · exact h1 h
  · exact h2 h
theorem chgK_none {zs : List Ent} {i : Int} (h : hasL zs i = false) : ∀ k : Nat, chgK zs i k = 0
  | 0 => rfl
  | k + 1 => by rw [chgK_no (.inr (by rw [litE_no h, litE_no h])), chgK_none h k]
/-- from which entry on all up to the k-th have been green. -/
def backK (zs : List Ent) (i : Int) : Nat → Nat
  | 0 => 0
  | k + 1 => if litE zs i k = 1 then backK zs i k else k + 1
theorem backK_le (zs : List Ent) (i : Int) : ∀ k : Nat, backK zs i k ≤ k
  | 0 => Nat.le_refl _
  | k + 1 => by
    have := backK_le zs i k
    have e : backK zs i (k + 1) = if litE zs i k = 1 then backK zs i k else k + 1 := rfl
    rw [e]
    split <;> omega
/-- what GreenSince answers. -/
def sinceG (zs : List Ent) (i s : Int) : Int := if shownL zs i s = 1 then IntKind.i64.wrap (s - (entA zs (backK zs i (atE zs s).toNat)).second) else -1
/-- a light that is shown is one of a record's. -/
theorem shown_is {zs : List Ent} {i s : Int} (h : shownL zs i s = 1) : isRec zs = true ∧ ∃ k : Nat, k < zs.length ∧ atE zs s = k ∧ hasL zs i = true ∧ litE zs i k = 1 := by
  have hb := atE_bound zs s
  unfold shownL at h
  have h0 : 0 ≤ atE zs s := by
    rcases Int.lt_or_le (atE zs s) 0 with h1 | h1
    · rw [litE_neg h1] at h; omega
    · exact h1
  refine ⟨?_, (atE zs s).toNat, by omega, by omega, ?_, by rw [Int.toNat_of_nonneg h0]; exact h⟩
  · cases hr : isRec zs
    · rw [atE_no hr] at h0; omega
    · rfl
  · cases hh : hasL zs i
    · rw [litE_no hh] at h; omega
    · rfl
end Go.Proofs.Ytblilnfkpfjclaa

/- Chapter 3's hashes: program and model. -/
namespace Go.Proofs.Ytblilnfkpfjclaa
open Go.RowKit
set_option linter.unusedVariables false

theorem modI_p (v : Int) : modI v 2147483647 = v % 2147483647 := rfl
theorem hash_step {d r : Int} (hd : 0 ≤ d ∧ d < 2147483647) (hr : 0 ≤ r ∧ r < 2147483647) : wrap64 (wrap64 (wrap64 (d * 1000003) + r) + 13) = d * 1000003 + r + 13 ∧ 0 ≤ d * 1000003 + r + 13 := by
  rw [IntWalk.wrap64_in (d * 1000003) (by omega), IntWalk.wrap64_in (d * 1000003 + r) (by omega), IntWalk.wrap64_in _ (by omega)]
  omega
theorem impl_fold (d v : Int) (w : World) (hd : 0 ≤ d ∧ d < 2147483647) :
    Calls Try.prog 171 #[.int .i64 d, .int .i64 v] w fun e w' => e = .returned (.int .i64 (hstep d v)) ∧ w = w' := by
  obtain ⟨h1, h2⟩ := hd
  have hr := Int.emod_nonneg v (show (2147483647 : Int) ≠ 0 by decide)
  have hr2 := Int.emod_lt_of_pos v (show (0 : Int) < 2147483647 by decide)
  have HS : Hid (hstep d v = (d * 1000003 + v % 2147483647 + 13) % 2147483647) := Lib.hid rfl
  go_enter Try.func171, Try.ntmps171
  go_wp2_with fail
  refine (impl_Mod v 2147483647 _).mono ?_
  rintro e w1 ⟨rfl, rfl⟩
  rw [modI_p]
  generalize v % 2147483647 = r at *
  go_wp2
  go_ret
  exact ⟨ret_i (by rw [HS.out]), rfl⟩
theorem foldl_take {vs : List Int} {k : Nat} (d : Int) (h : k < vs.length) : (vs.take (k + 1)).foldl hstep d = hstep ((vs.take k).foldl hstep d) (vs.getD k 0) := by
  rw [List.take_add_one, List.foldl_append, List.getD_eq_getElem?_getD, List.getElem?_eq_getElem h]
  rfl
theorem impl_foldAll (d : Int) (A : Option Addr) (n c B : Nat) (vs : List Int) (w : World) (hd : 0 ≤ d ∧ d < 2147483647) (h : IntsAt .i64 w B A n vs) (hn : n ≤ 4398046511104) :
    Calls Try.prog 156 #[.int .i64 d, .slice A n c] w fun e w' => e = .returned (.int .i64 (vs.foldl hstep d)) ∧ w = w' := by
  have hl := h.1
  go_enter Try.func156, Try.ntmps156
  go_wp2
  go_loop [0, 9] (fun x i => ∃ k : Nat, k ≤ n ∧ i = .int .i64 k ∧ x = .int .i64 ((vs.take k).foldl hstep d)) (fun _ i => n - (intOf i).toNat)
  case atStart => exact ⟨0, Nat.zero_le _, rfl, by simp⟩
  case round =>
    obtain ⟨k, hk, rfl, rfl⟩ := hrel
    by_cases hlt : k < n
    · obtain ⟨ad, rfl, hab, hcell⟩ := h.2 (by omega)
      have hc := hcell k hlt
      have HS := Lib.hid (foldl_take d (show k < vs.length by omega))
      have HR := Lib.hid (hash_fold_range (vs.take k) d hd)
      clear hcell
      generalize (vs.take k).foldl hstep d = x at *
      generalize vs.getD k 0 = z at *
      go_wp2_with fail
      refine (impl_fold x z _ HR.out).mono ?_
      rintro e w1 ⟨rfl, rfl⟩
      go_wp2
      go_round
      case rel => exact ⟨k + 1, by omega, by go_num, by rw [HS.out]⟩
      case measure => simp [intOf]; omega
    · obtain rfl : k = n := by omega
      rw [List.take_of_length_le (by omega)]
      go_wp2
      go_ret
      exact ⟨rfl, rfl⟩
theorem impl_Hash (A : Option Addr) (n c B : Nat) (vs : List Int) (w : World) (h : IntsAt .i64 w B A n vs) (hn : n ≤ 4398046511104) :
    Calls Try.prog 133 #[.slice A n c] w fun e w' => e = .returned (.int .i64 (hashI vs)) ∧ w = w' := by
  go_enter Try.func133, Try.ntmps133
  go_wp2_with fail
  refine (impl_foldAll 11 A n c B vs _ (by decide) h hn).mono ?_
  rintro e w1 ⟨rfl, rfl⟩
  go_wp2
  go_ret
  exact ⟨rfl, rfl⟩
theorem spec_Hash (A : Option Addr) (n c B : Nat) (vs : List Int) (w : World) (h : IntsAt .i64 w B A n vs) (hn : n ≤ 4398046511104) :
    Calls Try.prog 130 #[.slice A n c] w fun e w' => e = .returned (.int .i64 (hashI vs)) ∧ w = w' := by
  have hl := h.1
  go_enter Try.func130, Try.ntmps130
  go_wp2
  go_loop [3, 4] (fun x i => ∃ k : Nat, k ≤ n ∧ i = .int .i64 k ∧ x = .int .i64 (hashI (vs.take k))) (fun _ i => n - (intOf i).toNat)
  case atStart => exact ⟨0, Nat.zero_le _, rfl, rfl⟩
  case round =>
    obtain ⟨k, hk, rfl, rfl⟩ := hrel
    by_cases hlt : k < n
    · obtain ⟨ad, rfl, hab, hcell⟩ := h.2 (by omega)
      have hc := hcell k hlt
      have HS := Lib.hid (hashI_take (show k < vs.length by omega))
      obtain ⟨g1, g2⟩ := hashI_range (vs.take k)
      clear hcell
      generalize hashI (vs.take k) = x at *
      generalize vs.getD k 0 = z at *
      have HZ : Hid (hstep x z = (x * 1000003 + z % 2147483647 + 13) % 2147483647) := Lib.hid rfl
      have hr := Int.emod_nonneg z (show (2147483647 : Int) ≠ 0 by decide)
      have hr2 := Int.emod_lt_of_pos z (show (0 : Int) < 2147483647 by decide)
      go_wp2_with fail
      refine (spec_Mod z 2147483647 _).mono ?_
      rintro e w1 ⟨rfl, rfl⟩
      rw [modI_p]
      generalize z % 2147483647 = r at *
      go_wp2
      go_round
      case rel => exact ⟨k + 1, by omega, by go_num, by rw [HS.out, HZ.out]⟩
      case measure => simp [intOf]; omega
    · obtain rfl : k = n := by omega
      rw [hashI_all hl]
      go_wp2
      go_ret
      exact ⟨rfl, rfl⟩
end Go.Proofs.Ytblilnfkpfjclaa

/- Chapter 27: SealOf: program and model; slices.Concat, slices.Grow of integers. -/
namespace Go.Proofs.Ytblilnfkpfjclaa
open Go.RowKit
set_option linter.unusedVariables false

set_option maxHeartbeats 1000000 in
theorem spec_SealOf (b s : Int) (A : Option Addr) (n c B : Nat) (ls : List Int) (w : World) (h : IntsAt .i64 w B A n ls) (hA : A = none → n = 0 ∧ c = 0) (hB : B ≤ w.heap.size) (hn : n ≤ 1099511627776) :
    Calls Try.prog 80 #[.int .i64 b, .int .i64 s, .slice A n c] w fun e w' => e = .returned (.int .i64 (sealI b s ls)) ∧ Below w.heap.size w w' := by
  have hl := h.1
  have HV : Hid (sealI b s ls = hashI (b :: s :: ls)) := Lib.hid rfl
  have own0 : Own .i64 3 (w.alloc (.cells #[.int .i64 b, .int .i64 s] 3)) w.heap.size (.slice (some ⟨w.heap.size, 0, none⟩) 2 2) [b, s] := own_lit w [b, s] 2 (Nat.le_refl _) (by decide) rfl
  go_enter Try.func80, Try.ntmps80
  go_wp2_with (first
    | (at_builtin; refine wpList_app rfl _ _ 42 42 rfl .i64 3 3 8 Try.underlying42 Try.underlying42 info_i64 w.heap.size _ [b, s] rfl own0 A n c B ls rfl (h.keep fun p hp => World.cell?_of_block (Below.heap_alloc w _ _ (by omega))) hA (by decide) (by simp; omega) (by simp) ?_; intro v1 w1 hown1 hgrow1 hat1; have hb1 := own0.push (Nat.le_refl _) ((Below.refl _ _).alloc (Nat.le_refl _) _) (by simp) hgrow1; have hs1 := hb1.size; obtain ⟨A2, c2, rfl⟩ := hown1.sliced))
  have hi2 := hown1.ints
  rw [show ([b, s] ++ ls).length = n + 1 + 1 by simp [hl]] at hi2
  clear hgrow1 hat1 hown1 own0
  refine (spec_Hash A2 (n + 1 + 1) c2 _ ([b, s] ++ ls) _ hi2 (by omega)).mono ?_
  rintro e w3 ⟨rfl, rfl⟩
  go_wp2
  go_ret
  exact ⟨by rw [HV.out]; rfl, hb1⟩
theorem zc_size (m : Nat) : (Builtin.zeroCells (Value.int .i64 0).cells m).size = m := by
  simp [Builtin.zeroCells, Value.cells]
theorem lib_GrowNil (m : Nat) (w : World) (hm : m ≤ 1099511627776) (hp : 0 < m) :
    Calls Try.prog 157 #[.slice none 0 0, .int .i64 m] w fun e w' => ∃ v, e = .returned v ∧ Own .i64 3 w' w.heap.size v [] ∧ Below w.heap.size w w' := by
  have e1 : ¬ (m : Int) < 0 := by omega
  have e2 : (m : Int) > 0 := by omega
  have hwm : IntKind.i64.wrap (m : Int) = (m : Int) := by rw [IntKind.wrap_i64]; omega
  obtain ⟨i, hi1, hz, hsz, hby⟩ := info_parts (info_i64)
  have hr := fun ty => Lib.run_append_nil_zeros (P := Try.prog) w 42 3 ty 3 i (.int .i64 0) .i64 .i64 Try.underlying42 Try.underlying3 hi1 hz m hp (by omega) (by omega) (by rw [hby]; have e8 : IntKind.i64.bits / 8 = 8 := rfl; rw [e8]; omega)
  have hc1 := grownCap_ge w m 0 3
  have hc2 := grownCap_le_maxLen w m 0 3 (by unfold maxLen; omega)
  obtain ⟨q, hq⟩ : ∃ q, q = grownCap w m 0 3 := ⟨_, rfl⟩
  rw [← hq] at hc1 hc2
  simp only [← hq] at hr
  have HW : Hid (Own .i64 3 (w.drew.alloc (.cells (Builtin.zeroCells (Value.int .i64 0).cells m ++ Builtin.zeroCells (Value.int .i64 0).cells (q - m)) 3)) w.heap.size (.slice (some ⟨w.heap.size, 0, none⟩) 0 q) []) := Lib.hid ⟨rfl, .inr ⟨w.heap.size, q, _, rfl, Nat.le_refl _, heap_alloc_new w.drew _, Nat.zero_le _, hc2, by rw [Array.size_append, zc_size, zc_size]; omega, rfl⟩⟩
  have HB : Hid (Below w.heap.size w (w.drew.alloc (.cells (Builtin.zeroCells (Value.int .i64 0).cells m ++ Builtin.zeroCells (Value.int .i64 0).cells (q - m)) 3))) := Lib.hid ((show Below w.heap.size w w.drew from ⟨rfl, rfl, rfl, Nat.le_refl _, fun _ _ => rfl⟩).alloc (Nat.le_refl _) _)
  generalize w.drew.alloc (.cells (Builtin.zeroCells (Value.int .i64 0).cells m ++ Builtin.zeroCells (Value.int .i64 0).cells (q - m)) 3) = w1 at *
  clear hi1 hz hsz hby hq
  go_enter Try.func157, Try.ntmps157
  go_wp2_with (at_builtin; refine Lib.wpList_append_run w rfl _ _ _ _ rfl (.slice none 0 0) (.int .i64 m) rfl rfl _ _ (hr _) ?_)
  go_ret
  exact ⟨_, rfl, HW.out, HB.out⟩
set_option maxHeartbeats 2000000 in
/-- slices.Concat of two rows, the first one not empty. -/
theorem lib_Concat2 (H : Nat) (A1 : Option Addr) (n1 c1 : Nat) (xs : List Int) (A2 : Option Addr) (n2 c2 : Nat) (ys : List Int) (B : Nat) (w : World)
    (hH : w.heap[H]? = some (.cells #[.slice A1 n1 c1, .slice A2 n2 c2] 42)) (h1 : IntsAt .i64 w B A1 n1 xs) (h2 : IntsAt .i64 w B A2 n2 ys) (hB : B ≤ w.heap.size) (hA1 : A1 = none → n1 = 0 ∧ c1 = 0) (hA2 : A2 = none → n2 = 0 ∧ c2 = 0) (hp : 0 < n1) (hs1 : n1 ≤ 1048576) (hs2 : n2 ≤ 1048576) :
    Calls Try.prog 134 #[.slice (some ⟨H, 0, none⟩) 2 2] w fun e w' => ∃ A c, e = .returned (.slice A (n1 + n2) c) ∧ Own .i64 3 w' w.heap.size (.slice A (n1 + n2) c) (xs ++ ys) ∧ Below w.heap.size w w' := by
  have hl1 := h1.1
  have hl2 := h2.1
  have z0 : w.cell? ⟨H, 0, none⟩ = some (.slice A1 n1 c1) := by rw [cell_of_row w H 0 _ _ _ hH]; rfl
  have z1 : w.cell? ⟨H, 1, none⟩ = some (.slice A2 n2 c2) := by rw [cell_of_row w H 1 _ _ _ hH]; rfl
  have wa : IntKind.i64.wrap ((n1 : Int) + (n2 : Int)) = ((n1 + n2 : Nat) : Int) := by rw [IntKind.wrap_i64]; omega
  have wb : IntKind.i64.wrap ((n1 : Int)) = (n1 : Int) := by rw [IntKind.wrap_i64]; omega
  have hlt := lt_of_block hH
  have HZ := Lib.hid hH
  clear hH
  go_enter Try.func134, Try.ntmps134
  go_wp2_with fail
  go_loopw [3, 11] (fun z i wr => w = wr ∧ ((i = .int .i64 0 ∧ z = .int .i64 0) ∨ (i = .int .i64 1 ∧ z = .int .i64 n1) ∨ (i = .int .i64 2 ∧ z = .int .i64 ((n1 + n2 : Nat) : Int)))) (fun _ i _ => 2 - (intOf i).toNat)
  case atStart => exact ⟨rfl, .inl ⟨rfl, rfl⟩⟩
  case round =>
    obtain ⟨rfl, ⟨rfl, rfl⟩ | ⟨rfl, rfl⟩ | ⟨rfl, rfl⟩⟩ := hrel
    · have e2 : ¬ (n1 : Int) < 0 := by omega
      go_wp2_with fail
      go_roundw
      case rel => exact ⟨by first | trivial | rfl, .inr (.inl ⟨by go_num, by go_num⟩)⟩
      case measure => simp [intOf]
    · have e1 : ¬ ((n1 + n2 : Nat) : Int) < 0 := by omega
      have e3 : ¬ (n1 : Int) + (n2 : Int) < 0 := by omega
      go_wp2_with fail
      go_roundw
      case rel => exact ⟨by first | trivial | rfl, .inr (.inr ⟨by go_num, by go_num⟩)⟩
      case measure => simp [intOf]
    · clear z0 z1
      go_wp2_with fail
      refine (lib_GrowNil (n1 + n2) w (by omega) (by omega)).mono ?_
      rintro e w1 ⟨v, rfl, ho, hb⟩
      have hH1 := Lib.hid ((hb.block H hlt).trans HZ.out)
      have HO := Lib.hid ho
      have HB := Lib.hid hb
      obtain ⟨Ag, cg, rfl⟩ := ho.sliced
      have I1 := Lib.hid h1
      have I2 := Lib.hid h2
      clear ho hb h1 h2
      go_wp2_with fail
      go_loopw [6, 27] (fun v i wr => Below w.heap.size w wr ∧ ((i = .int .i64 0 ∧ Own .i64 3 wr w.heap.size v []) ∨ (i = .int .i64 1 ∧ Own .i64 3 wr w.heap.size v xs) ∨ (i = .int .i64 2 ∧ Own .i64 3 wr w.heap.size v (xs ++ ys)))) (fun _ i _ => 2 - (intOf i).toNat)
      case atStart => exact ⟨HB.out, .inl ⟨rfl, HO.out⟩⟩
      case round =>
        obtain ⟨hbl, ⟨rfl, ho⟩ | ⟨rfl, ho⟩ | ⟨rfl, ho⟩⟩ := hrel
        · have hHr := (hbl.block H hlt).trans HZ.out
          have z0 : wr.cell? ⟨H, 0, none⟩ = some (.slice A1 n1 c1) := by rw [cell_of_row wr H 0 _ _ _ hHr]; rfl
          have hi := I1.out.keep (w' := wr) (fun p hp => hbl.cell (by omega))
          have hsz := hbl.size
          have HBL := Lib.hid hbl
          clear hHr hbl
          go_wp2_with (at_builtin; refine wpList_app rfl _ _ 42 42 rfl .i64 3 3 8 Try.underlying42 Try.underlying42 info_i64 w.heap.size _ [] rfl ho A1 n1 c1 B xs rfl hi hA1 (by decide) (by simp; omega) (by omega) ?_; intro v1 wq hown1 hgrow1 hat1; have hb1 := ho.push (Nat.le_refl _) HBL.out hsz hgrow1; have hown2 : Own .i64 3 wq w.heap.size v1 xs := by { simpa using hown1 }; clear hown1 hgrow1 hat1)
          go_roundw
          case rel => exact ⟨hb1, .inr (.inl ⟨by go_num, hown2⟩)⟩
          case measure => simp [intOf]
        · have hHr := (hbl.block H hlt).trans HZ.out
          have z1 : wr.cell? ⟨H, 1, none⟩ = some (.slice A2 n2 c2) := by rw [cell_of_row wr H 1 _ _ _ hHr]; rfl
          have hi := I2.out.keep (w' := wr) (fun p hp => hbl.cell (by omega))
          have hsz := hbl.size
          have HBL := Lib.hid hbl
          clear hHr hbl
          go_wp2_with (at_builtin; refine wpList_app rfl _ _ 42 42 rfl .i64 3 3 8 Try.underlying42 Try.underlying42 info_i64 w.heap.size _ xs rfl ho A2 n2 c2 B ys rfl hi hA2 (by decide) (by omega) (by omega) ?_; intro v1 wq hown1 hgrow1 hat1; have hb1 := ho.push (Nat.le_refl _) HBL.out hsz hgrow1; clear hgrow1 hat1)
          go_roundw
          case rel => exact ⟨hb1, .inr (.inr ⟨by go_num, hown1⟩)⟩
          case measure => simp [intOf]
        · obtain ⟨Ae, ce, rfl⟩ := ho.sliced
          have HOE := Lib.hid ho
          clear ho
          go_wp2_with fail
          go_ret
          exact ⟨Ae, ce, by simp [hl1, hl2], by have := HOE.out; simpa [hl1, hl2] using this, hbl⟩
set_option maxHeartbeats 2000000 in
theorem impl_SealOf (b s : Int) (A : Option Addr) (n c B : Nat) (ls : List Int) (w : World) (h : IntsAt .i64 w B A n ls) (hA : A = none → n = 0 ∧ c = 0) (hB : B ≤ w.heap.size) (hn : n ≤ 1048576) :
    Calls Try.prog 84 #[.int .i64 b, .int .i64 s, .slice A n c] w fun e w' => e = .returned (.int .i64 (sealI b s ls)) ∧ Below w.heap.size w w' := by
  have hl := h.1
  have HV : Hid (sealI b s ls = hashI (b :: s :: ls)) := Lib.hid rfl
  obtain ⟨wA, hwA⟩ : ∃ wA, wA = (w.alloc (.cells #[.int .i64 b, .int .i64 s] 3)).alloc (.cells #[.slice (some ⟨w.heap.size, 0, none⟩) 2 2, .slice A n c] 42) := ⟨_, rfl⟩
  obtain ⟨hk0, hk1, hsz, hBA⟩ := two_blocks hwA
  have own0 : Own .i64 3 (w.alloc (.cells #[.int .i64 b, .int .i64 s] 3)) w.heap.size (.slice (some ⟨w.heap.size, 0, none⟩) 2 2) [b, s] := own_lit w [b, s] 2 (Nat.le_refl _) (by decide) rfl
  have own1 := (own0.alloc (.cells #[.slice (some ⟨w.heap.size, 0, none⟩) 2 2, .slice A n c] 42))
  rw [← hwA] at own1
  have hcc := lib_Concat2 (w.heap.size + 1) (some ⟨w.heap.size, 0, none⟩) 2 2 [b, s] A n c ls wA.heap.size wA hk1 own1.ints ((h.keep fun p hp => hBA.cell (by omega)).up (by omega)) (Nat.le_refl _) (by simp) hA (by omega) (by omega) hn
  have HBA := Lib.hid hBA
  clear hk0 hk1 hsz own0 own1 hBA
  go_enter Try.func84, Try.ntmps84
  go_wp2_with fail
  rw [← hwA]
  clear hwA
  refine hcc.mono ?_
  rintro e w1 ⟨A1, c1, rfl, ho, hb⟩
  have hi := ho.ints
  have HB1 := Lib.hid (HBA.out.trans (hb.mono HBA.out.size))
  clear hcc ho hb
  go_wp2_with fail
  refine (impl_Hash A1 (2 + n) c1 _ ([b, s] ++ ls) _ hi (by omega)).mono ?_
  rintro e w3 ⟨rfl, rfl⟩
  go_wp2
  go_ret
  exact ⟨by rw [HV.out]; rfl, HB1.out⟩
end Go.Proofs.Ytblilnfkpfjclaa

/- Chapter 27: entries linked to the ones before them: lastOf, seal, LastSeal: program and model. -/
namespace Go.Proofs.Ytblilnfkpfjclaa
open Go.RowKit
set_option linter.unusedVariables false

/-- the pointer to the k-th entry, linked to all before it. -/
def LkAt (w : World) (lo : Nat) (zs : List Ent) : Nat → Value → Prop
  | 0, v => v = .pointer none
  | k + 1, v => ∃ (g : Nat) (v' : Value) (A : Option Addr) (m c : Nat), v = .pointer (some ⟨g, 0, none⟩) ∧ lo ≤ g ∧
      w.heap[g]? = some (.cells #[.int .i64 (entA zs k).second, .slice A m c, .int .i64 (entA zs k).mac, v'] 109) ∧ IntsAt .i64 w w.heap.size A m (entA zs k).lights ∧ (A = none → m = 0 ∧ c = 0) ∧ LkAt w lo zs k v'
theorem LkAt.below {w w' : World} {lo : Nat} {zs : List Ent} (hb : Below w.heap.size w w') : ∀ {k : Nat} {v : Value}, LkAt w lo zs k v → LkAt w' lo zs k v
  | 0, _, h => h
  | k + 1, _, ⟨g, v', A, m, c, e, hl, hg, hi, hn, h⟩ => ⟨g, v', A, m, c, e, hl, (hb.block _ (lt_of_block hg)).trans hg, (hi.keep fun _ hp => hb.cell hp).up hb.size, hn, LkAt.below hb h⟩
theorem LkAt.ptr {w : World} {lo : Nat} {zs : List Ent} : ∀ {k : Nat} {v : Value}, LkAt w lo zs k v → ∃ o, v = .pointer o
  | 0, _, h => ⟨_, h⟩
  | k + 1, _, ⟨g, v', A, m, c, e, _⟩ => ⟨_, e⟩
/-- the last one's seal. -/
def lastSl (zs : List Ent) : Int := if zs.length = 0 then 0 else (entA zs (zs.length - 1)).mac
theorem cells4 {w : World} {g : Nat} {x0 x1 x2 x3 : Value} {E : TypeId} {fr : Nat × Nat} (h : w.heap[g]? = some (.cells #[x0, x1, x2, x3] E fr)) : w.cell? ⟨g, 0, none⟩ = some x0 ∧ w.cell? ⟨g, 1, none⟩ = some x1 ∧ w.cell? ⟨g, 2, none⟩ = some x2 ∧ w.cell? ⟨g, 3, none⟩ = some x3 :=
  ⟨by rw [cell_of_row w g 0 _ E fr h]; rfl, by rw [cell_of_row w g _ _ E fr h]; rfl, by rw [cell_of_row w g _ _ E fr h]; rfl, by rw [cell_of_row w g _ _ E fr h]; rfl⟩
set_option maxHeartbeats 1000000 in
theorem impl_lastOf (A : Option Addr) (n c B : Nat) (zs : List Ent) (w : World) (h : EntsAt w B A n zs) (hB : B ≤ w.heap.size) (hn : n ≤ 4294967296) :
    Calls Try.prog 88 #[.slice A n c] w fun e w' => ∃ v, e = .returned v ∧ LkAt w' w.heap.size zs n v ∧ Below w.heap.size w w' := by
  have hl := h.1
  go_enter Try.func88, Try.ntmps88
  go_wp2
  go_loopw [3, 8] (fun v i wr => ∃ k : Nat, k ≤ n ∧ i = .int .i64 k ∧ LkAt wr w.heap.size zs k v ∧ Below w.heap.size w wr) (fun _ i _ => n - (intOf i).toNat)
  case atStart => exact ⟨0, Nat.zero_le _, rfl, rfl, Below.refl _ _⟩
  case round =>
    obtain ⟨k, hk, rfl, hv, hbl⟩ := hrel
    by_cases hlt : k < n
    · obtain ⟨ad, A', m, c', rfl, hab, hq, hi, hmc, hnil⟩ := h.at hlt
      obtain ⟨c0, c1, c2⟩ := hq.below hbl (by omega)
      have hiw := hi.keep (w' := wr) (fun p hp => hbl.cell (by omega))
      have hsz := hbl.size
      have i1 : (0 : Int) ≤ (k : Int) := by omega
      have i2 : (k : Int) < (n : Int) := by omega
      obtain ⟨o3, rfl⟩ := hv.ptr
      have HV := Lib.hid hv
      have HI := Lib.hid hiw
      have HB := Lib.hid hbl
      have HNL := Lib.hid hnil
      clear hq hi hiw hv hbl hnil
      go_wp2
      go_roundw
      case rel =>
        have hb2 : Below wr.heap.size wr ((wr.alloc (.cells #[.int .i64 (entA zs k).second, .slice A' m c', .int .i64 (entA zs k).mac] 91)).alloc (.cells #[.int .i64 (entA zs k).second, .slice A' m c', .int .i64 (entA zs k).mac, .pointer o3] 109)) := ((Below.refl _ _).alloc (Nat.le_refl _) _).alloc (by simp) _
        refine ⟨k + 1, by omega, by go_num, ⟨wr.heap.size + 1, .pointer o3, A', m, c', rfl, by omega, heap_newF _ _ (heap_size_allocF _ _), (HI.out.keep fun _ hp => hb2.cell (by omega)).up (by simp; omega), HNL.out, HV.out.below hb2⟩, HB.out.trans (hb2.mono hsz)⟩
      case measure => simp [intOf]; omega
    · obtain rfl : k = n := by omega
      have HV := Lib.hid hv
      clear hv
      go_wp2
      go_ret
      exact ⟨_, rfl, HV.out, hbl⟩
theorem impl_seal_nil (w : World) : Calls Try.prog 135 #[.pointer none] w fun e w' => e = .returned (.int .i64 0) ∧ w = w' := by
  go_enter Try.func135, Try.ntmps135
  go_wp2
  go_ret
  exact ⟨rfl, rfl⟩
theorem impl_seal (g : Nat) (x0 x1 v : Value) (s : Int) (w : World) (h : w.heap[g]? = some (.cells #[x0, x1, .int .i64 s, v] 109)) : Calls Try.prog 135 #[.pointer (some ⟨g, 0, none⟩)] w fun e w' => e = .returned (.int .i64 s) ∧ w = w' := by
  obtain ⟨c0, c1, c2, c3⟩ := cells4 h
  clear h
  go_enter Try.func135, Try.ntmps135
  go_wp2
  go_ret
  exact ⟨rfl, rfl⟩
theorem impl_LastSeal (A : Option Addr) (n c B : Nat) (zs : List Ent) (w : World) (h : EntsAt w B A n zs) (hB : B ≤ w.heap.size) (hn : n ≤ 4294967296) :
    Calls Try.prog 85 #[.slice A n c] w fun e w' => e = .returned (.int .i64 (lastSl zs)) ∧ Below w.heap.size w w' := by
  have hl := h.1
  have hcc := impl_lastOf A n c B zs w h hB hn
  go_enter Try.func85, Try.ntmps85
  go_wp2_with fail
  refine hcc.mono ?_
  rintro e w1 ⟨v, rfl, hv, hb1⟩
  clear hcc h
  match n, hl, hv with
  | 0, hl, hv =>
    have hv' : v = .pointer none := hv
    subst hv'
    have HR : Hid (lastSl zs = 0) := Lib.hid (by unfold lastSl; rw [if_pos hl])
    go_wp2_with fail
    refine (impl_seal_nil _).mono ?_
    rintro e w2 ⟨rfl, rfl⟩
    go_wp2
    go_ret
    exact ⟨by rw [HR.out]; try rfl, hb1⟩
  | k + 1, hl, hv =>
    obtain ⟨g, v', A', m, c', rfl, hlo, hg, hi, hnl, hv'⟩ := hv
    have HR : Hid (lastSl zs = (entA zs k).mac) := Lib.hid (by unfold lastSl; rw [if_neg (by omega), hl]; rfl)
    clear hi hv'
    go_wp2_with fail
    refine (impl_seal g _ _ _ _ _ hg).mono ?_
    rintro e w2 ⟨rfl, rfl⟩
    go_wp2
    go_ret
    exact ⟨by rw [HR.out]; try rfl, hb1⟩
theorem spec_LastSeal (A : Option Addr) (n c B : Nat) (zs : List Ent) (w : World) (h : EntsAt w B A n zs) (hB : B ≤ w.heap.size) (hn : n ≤ 4294967296) :
    Calls Try.prog 81 #[.slice A n c] w fun e w' => e = .returned (.int .i64 (lastSl zs)) ∧ Below w.heap.size w w' := by
  have hl := h.1
  match n, hl, h, hn with
  | 0, hl, h, hn =>
    have HR : Hid (lastSl zs = 0) := Lib.hid (by unfold lastSl; rw [if_pos hl])
    go_enter Try.func81, Try.ntmps81
    go_wp2
    go_ret
    exact ⟨by rw [HR.out]; try rfl, Below.refl _ _⟩
  | k + 1, hl, h, hn =>
    obtain ⟨ad, A', m, c', rfl, hab, hq, hi, hmc, hnil⟩ := h.at (j := k) (by omega)
    have HR : Hid (lastSl zs = (entA zs k).mac) := Lib.hid (by unfold lastSl; rw [if_neg (by omega), hl]; rfl)
    obtain ⟨c0, c1, c2⟩ := hq
    have b0 : ((((k + 1 : Nat) : Int)) == 0) = false := by simp; omega
    have i1 : (0 : Int) ≤ (k : Int) := by omega
    clear hi h
    go_enter Try.func81, Try.ntmps81
    go_wp2
    go_ret
    exact ⟨by rw [HR.out]; try rfl, Below.refl _ _⟩
end Go.Proofs.Ytblilnfkpfjclaa

/- Chapter 27: IsRecord of the program. -/
namespace Go.Proofs.Ytblilnfkpfjclaa
open Go.RowKit
set_option linter.unusedVariables false

theorem impl_isSecondR (n : Int) (w : World) : Calls Try.prog 90 #[.int .i64 n] w fun e w' => e = .returned (.bool (inB n 0 1000000)) ∧ w = w' := by
  go_enter Try.func90, Try.ntmps90
  go_wp2_with fail
  refine (impl_InRange _ _ _ _).mono ?_
  rintro e w' ⟨rfl, rfl⟩
  go_wp2
  go_ret
  exact ⟨rfl, rfl⟩
theorem litsOk_no {ls : List Int} {k : Nat} (hk : k < ls.length) (h : inB (ls.getD k 0) 0 2 = false) : litsOk ls = false := by
  unfold litsOk
  exact List.all_eq_false.2 ⟨ls.getD k 0, by rw [List.getD_eq_getElem?_getD, List.getElem?_eq_getElem hk]; exact List.getElem_mem _, by rw [h]; simp⟩
theorem litsOk_yes {ls : List Int} (h : ∀ k, k < ls.length → inB (ls.getD k 0) 0 2 = true) : litsOk ls = true := by
  unfold litsOk
  refine List.all_eq_true.2 (fun z hz => ?_)
  obtain ⟨i, hi, rfl⟩ := List.mem_iff_getElem.1 hz
  have := h i hi
  rwa [List.getD_eq_getElem?_getD, List.getElem?_eq_getElem hi] at this
def shwB (ls : List Int) : Bool := decide (ls.length ≤ 12) && litsOk ls
theorem impl_areShown (A : Option Addr) (n c B : Nat) (ls : List Int) (w : World) (h : IntsAt .i64 w B A n ls) (hn : n ≤ 4294967296) :
    Calls Try.prog 158 #[.slice A n c] w fun e w' => e = .returned (.bool (shwB ls)) ∧ w = w' := by
  have hl := h.1
  by_cases h12 : 12 < n
  · have HV : Hid (shwB ls = false) := Lib.hid (by unfold shwB; rw [decide_eq_false (by omega), Bool.false_and])
    have e1 : (n : Int) > 12 := by omega
    go_enter Try.func158, Try.ntmps158
    go_wp2
    go_ret
    exact ⟨by rw [HV.out]; rfl, rfl⟩
  have e1 : ¬ (n : Int) > 12 := by omega
  have HNO : Hid (∀ k, k < n → inB (ls.getD k 0) 0 2 = false → shwB ls = false) := Lib.hid (fun k hk h => by unfold shwB; rw [litsOk_no (by omega) h, Bool.and_false])
  have HYES : Hid ((∀ k, k < n → inB (ls.getD k 0) 0 2 = true) → shwB ls = true) := Lib.hid (fun h => by unfold shwB; rw [litsOk_yes (fun k hk => h k (by omega)), decide_eq_true (by omega)]; rfl)
  clear hl
  go_enter Try.func158, Try.ntmps158
  go_wp2
  go_loopw [10] (fun i wr => ∃ k : Nat, k ≤ n ∧ i = .int .i64 k ∧ (∀ j, j < k → inB (ls.getD j 0) 0 2 = true) ∧ w = wr) (fun i _ => n - (intOf i).toNat)
  case atStart => exact ⟨0, Nat.zero_le _, rfl, fun j hj => absurd hj (by omega), rfl⟩
  case round =>
    obtain ⟨k, hk, rfl, hgo, rfl⟩ := hrel
    have HG := Lib.hid hgo
    clear hgo
    by_cases hlt : k < n
    · obtain ⟨ad, rfl, hab, hcell⟩ := h.2 (by omega)
      have hc := hcell k hlt
      have i1 : (0 : Int) ≤ (k : Int) := by omega
      have i2 : (k : Int) < (n : Int) := by omega
      have HNK := Lib.hid (HNO.out k hlt)
      have HGK : Hid (inB (ls.getD k 0) 0 2 = true → ∀ j, j < k + 1 → inB (ls.getD j 0) 0 2 = true) := Lib.hid (fun h j hj => by
        by_cases e : j = k
        · subst e; exact h
        · exact HG.out j (by omega))
      clear hcell
      generalize ls.getD k 0 = z at *
      cases g : inB z 0 2
      · have HV := Lib.hid (HNK.out g)
        have G := Lib.hid g
        clear g HGK HNK
        go_wp2_with (go_at_call 72; refine (impl_InRange _ _ _ _).mono ?_; rintro e w' ⟨rfl, rfl⟩; rw [G.out])
        go_ret
        exact ⟨by rw [HV.out]; rfl, rfl⟩
      · have HV := Lib.hid (HGK.out g)
        have G := Lib.hid g
        clear g HGK HNK
        go_wp2_with (go_at_call 72; refine (impl_InRange _ _ _ _).mono ?_; rintro e w' ⟨rfl, rfl⟩; rw [G.out])
        go_roundw
        case rel => exact ⟨k + 1, by omega, by go_num, HV.out, by first | trivial | rfl⟩
        case measure => simp [intOf]; omega
    · obtain rfl : k = n := by omega
      have HR := Lib.hid (HYES.out HG.out)
      go_wp2
      go_ret
      exact ⟨by rw [HR.out]; rfl, by first | trivial | rfl⟩
theorem entOk_shw {zs : List Ent} {k : Nat} (h : shwB (entA zs k).lights = false) : entOk zs k = false := by
  unfold shwB at h
  rw [Bool.and_eq_false_iff] at h
  rcases h with h | h
  · exact entOk_len (by simpa using h)
  · exact entOk_lit h
theorem shwB_parts {ls : List Int} (h : shwB ls = true) : ls.length ≤ 12 ∧ litsOk ls = true := by unfold shwB at h; simpa using h
set_option maxHeartbeats 4000000 in
set_option maxRecDepth 100000 in
theorem impl_isValidE (lo : Nat) (zs : List Ent) (w : World) (k : Nat) (v : Value) (h : LkAt w lo zs (k + 1) v) (hm : (entA zs k).lights.length ≤ 1048576) :
    Calls Try.prog 136 #[v] w fun e w' => e = .returned (.bool (entOk zs k)) ∧ Below w.heap.size w w' := by
  obtain ⟨g, v', A, m, c, rfl, hlo, hg, hi, hnil, hv⟩ := h
  have HE1 : Hid (inB (entA zs k).second 0 1000000 = false → entOk zs k = false) := Lib.hid entOk_sec
  have HE2 : Hid (shwB (entA zs k).lights = false → entOk zs k = false) := Lib.hid entOk_shw
  have HE3 : Hid (k ≠ 0 → ¬ ((entA zs (k - 1)).second < (entA zs k).second ∧ (entA zs k).lights.length = (entA zs (k - 1)).lights.length) → entOk zs k = false) := Lib.hid entOk_beh
  have HE4 : Hid ((entA zs k).mac ≠ sealI (prevM zs k) (entA zs k).second (entA zs k).lights → entOk zs k = false) := Lib.hid entOk_mac
  have HE5 : Hid (inB (entA zs k).second 0 1000000 = true → shwB (entA zs k).lights = true → (k = 0 ∨ ((entA zs (k - 1)).second < (entA zs k).second ∧ (entA zs k).lights.length = (entA zs (k - 1)).lights.length)) → (entA zs k).mac = sealI (prevM zs k) (entA zs k).second (entA zs k).lights → entOk zs k = true) := Lib.hid (fun h1 h2 h4 h5 => entOk_mk h1 (shwB_parts h2).1 (shwB_parts h2).2 h4 h5)
  have hlm := hi.1
  have hsh := impl_areShown A m c _ (entA zs k).lights w hi (by omega)
  have hse := fun y : GW w => impl_SealOf (prevM zs k) (entA zs k).second A m c _ (entA zs k).lights y.val (hi.keep fun p hp => y.ok.cell hp) hnil y.ok.size (by omega)
  have H12 : Hid (shwB (entA zs k).lights = true → m ≤ 12) := Lib.hid (fun h => by have := (shwB_parts h).1; omega)
  have y0 := fun y : GW w => (cells4 ((y.ok.block _ (lt_of_block hg)).trans hg)).1
  have y1 := fun y : GW w => (cells4 ((y.ok.block _ (lt_of_block hg)).trans hg)).2.1
  have y2 := fun y : GW w => (cells4 ((y.ok.block _ (lt_of_block hg)).trans hg)).2.2.1
  have y3 := fun y : GW w => (cells4 ((y.ok.block _ (lt_of_block hg)).trans hg)).2.2.2
  obtain ⟨c0, c1, c2, c3⟩ := cells4 hg
  have ARM : Hid (True) := Lib.hid trivial
  clear hg hi
  cases g1 : inB (entA zs k).second 0 1000000
  · have HV := Lib.hid (HE1.out g1)
    have G1 := Lib.hid g1
    clear g1 HE1 HE2 HE3 HE4 HE5 hsh hse hv y0 y1 y2 y3
    go_enter Try.func136, Try.ntmps136
    go_wp2_with (go_at_call 90; refine (impl_isSecondR _ _).mono ?_; rintro e w' ⟨rfl, rfl⟩; rw [G1.out])
    go_ret
    exact ⟨by rw [HV.out]; rfl, Below.refl _ _⟩
  cases g2 : shwB (entA zs k).lights
  · have HV := Lib.hid (HE2.out g2)
    have G1 := Lib.hid g1
    rw [g2] at hsh
    clear g1 g2 HE1 HE2 HE3 HE4 HE5 hse hv y0 y1 y2 y3
    go_enter Try.func136, Try.ntmps136
    go_wp2_with (first | (go_at_call 90; refine (impl_isSecondR _ _).mono ?_; rintro e w' ⟨rfl, rfl⟩; rw [G1.out]) | (go_at_call 158; refine hsh.mono ?_; rintro e w' ⟨rfl, rfl⟩))
    go_ret
    exact ⟨by rw [HV.out]; rfl, Below.refl _ _⟩
  have hm12 := H12.out g2
  have G1 := Lib.hid g1
  rw [g2] at hsh
  have HE5' := Lib.hid (HE5.out g1 g2)
  clear g1 g2 HE1 HE2 HE5 H12
  rcases k with _ | j
  · have hv' : v' = .pointer none := hv
    subst hv'
    have HP : Hid (prevM zs 0 = 0) := Lib.hid rfl
    rw [HP.out] at hse HE4 HE5'
    have HE5 : Hid ((entA zs 0).mac = sealI 0 (entA zs 0).second (entA zs 0).lights → entOk zs 0 = true) := Lib.hid (fun h => HE5'.out (.inl rfl) h)
    have hsn := fun y : GW w => impl_seal_nil y.val
    clear hv HE3 HE5' HP
    generalize sealI 0 (entA zs 0).second (entA zs 0).lights = r at *
    generalize entOk zs 0 = b at *
    generalize (entA zs 0).second = x0 at *
    generalize (entA zs 0).mac = x2 at *
    generalize (entA zs 0).lights = ls at *
    have ALL : ∀ q : Bool, (x2 == r) = q → b = q := fun q hq => by
      cases q
      · exact HE4.out (by simpa using hq)
      · exact HE5.out (by simpa using hq)
    obtain ⟨q, hq⟩ : ∃ q, (x2 == r) = q := ⟨_, rfl⟩
    have HB := Lib.hid (ALL q hq)
    clear ALL HE4 HE5
    go_enter Try.func136, Try.ntmps136
    go_wp2_with (first | (go_at_call 90; refine (impl_isSecondR _ _).mono ?_; rintro e w' ⟨rfl, rfl⟩; rw [G1.out]) | (go_at_call 158; refine hsh.mono ?_; rintro e w' ⟨rfl, rfl⟩))
    refine wp_region_grow (by kernel_rfl) (by kernel_rfl) ?_
    repeat (go_big_quiet_step (first | fail))
    refine wpQuiet_nil ?_
    intro x3
    have hb3 := x3.ok
    have z0 : ∀ y : GW x3.val, y.val.cell? ⟨g, 0, none⟩ = _ := fun y => y0 ⟨y.val, hb3.trans (y.ok.mono hb3.size)⟩
    have z1 : ∀ y : GW x3.val, y.val.cell? ⟨g, 1, none⟩ = _ := fun y => y1 ⟨y.val, hb3.trans (y.ok.mono hb3.size)⟩
    have z2 : ∀ y : GW x3.val, y.val.cell? ⟨g, 2, none⟩ = _ := fun y => y2 ⟨y.val, hb3.trans (y.ok.mono hb3.size)⟩
    have z3 : ∀ y : GW x3.val, y.val.cell? ⟨g, 3, none⟩ = _ := fun y => y3 ⟨y.val, hb3.trans (y.ok.mono hb3.size)⟩
    have zse := fun y : GW x3.val => hse ⟨y.val, hb3.trans (y.ok.mono hb3.size)⟩
    have zsn := fun y : GW x3.val => hsn ⟨y.val, hb3.trans (y.ok.mono hb3.size)⟩
    simp only at zse zsn
    clear y0 y1 y2 y3 hse hsn c0 c1 c2 c3
    generalize x3.val = w3 at *
    clear x3
    go_wp2
    refine wp_region_grow (by kernel_rfl) (by kernel_rfl) ?_
    repeat (go_big_quiet_step (first | (go_at_call 135; first | with_reducible exact calls_gw_same _ (zsn _)) | (go_at_call 84; first | with_reducible exact calls_gw _ (zse _))))
    refine wpQuiet_nil ?_
    intro x4
    have hb4 := x4.ok
    generalize x4.val = w4 at *
    go_wp2
    go_ret
    exact ⟨by rw [HB.out]; rfl, hb3.trans (hb4.mono hb3.size)⟩
  · obtain ⟨g', v'', A', m', c', rfl, hlo', hg', hi', hnil', hv'⟩ := hv
    have u0 := fun y : GW w => (cells4 ((y.ok.block _ (lt_of_block hg')).trans hg')).1
    have u1 := fun y : GW w => (cells4 ((y.ok.block _ (lt_of_block hg')).trans hg')).2.1
    have hlm' := hi'.1
    have HP : Hid (prevM zs (j + 1) = (entA zs j).mac) := Lib.hid (by unfold prevM; rw [if_neg (by omega), Nat.add_sub_cancel])
    have hsn := fun y : GW w => impl_seal g' _ _ _ _ y.val ((y.ok.block _ (lt_of_block hg')).trans hg')
    rw [HP.out] at hse HE4 HE5'
    have HE3' := Lib.hid (HE3.out (by omega))
    rw [Nat.add_sub_cancel] at HE3' HE5'
    rw [hlm, hlm'] at HE3' HE5'
    clear hv' hg' hi' HE3 HP
    have HE5 : Hid ((entA zs j).second < (entA zs (j + 1)).second → m = m' → (entA zs (j + 1)).mac = sealI (entA zs j).mac (entA zs (j + 1)).second (entA zs (j + 1)).lights → entOk zs (j + 1) = true) := Lib.hid (fun h1 h2 h => HE5'.out (.inr ⟨h1, h2⟩) h)
    clear HE5'
    generalize sealI (entA zs j).mac (entA zs (j + 1)).second (entA zs (j + 1)).lights = r at *
    generalize entOk zs (j + 1) = b at *
    generalize (entA zs (j + 1)).second = x0 at *
    generalize (entA zs (j + 1)).mac = x2 at *
    generalize (entA zs (j + 1)).lights = ls at *
    generalize (entA zs j).second = s0 at *
    generalize (entA zs j).mac = s2 at *
    by_cases h1 : x0 ≤ s0
    · have HB : Hid (b = false) := Lib.hid (HE3'.out (fun h => by have := h.1; omega))
      have d1 : decide (x0 ≤ s0) = true := decide_eq_true h1
      clear HE3' HE4 HE5 hse hsn
      go_enter Try.func136, Try.ntmps136
      go_wp2_with (first | (go_at_call 90; refine (impl_isSecondR _ _).mono ?_; rintro e w' ⟨rfl, rfl⟩; rw [G1.out]) | (go_at_call 158; refine hsh.mono ?_; rintro e w' ⟨rfl, rfl⟩))
      refine wp_region_grow (by kernel_rfl) (by kernel_rfl) ?_
      repeat (go_big_quiet_step (first | fail))
      refine wpQuiet_nil ?_
      intro x3
      have hb3 := x3.ok
      generalize x3.val = w3 at *
      go_wp2
      go_ret
      exact ⟨by rw [HB.out]; rfl, hb3⟩
    have d1 : decide (x0 ≤ s0) = false := decide_eq_false h1
    by_cases h2 : m = m'
    rotate_left
    · have HB : Hid (b = false) := Lib.hid (HE3'.out (fun h => h2 h.2))
      have e2 : ((m : Int) == (m' : Int)) = false := by rw [beq_eq_false_iff_ne]; omega
      have e3 : ((m : Int) != (m' : Int)) = true := by rw [bne_iff_ne]; omega
      clear HE3' HE4 HE5 hse hsn
      go_enter Try.func136, Try.ntmps136
      go_wp2_with (first | (go_at_call 90; refine (impl_isSecondR _ _).mono ?_; rintro e w' ⟨rfl, rfl⟩; rw [G1.out]) | (go_at_call 158; refine hsh.mono ?_; rintro e w' ⟨rfl, rfl⟩))
      refine wp_region_grow (by kernel_rfl) (by kernel_rfl) ?_
      repeat (go_big_quiet_step (first | fail))
      refine wpQuiet_nil ?_
      intro x3
      have hb3 := x3.ok
      generalize x3.val = w3 at *
      go_wp2
      go_ret
      exact ⟨by rw [HB.out]; rfl, hb3⟩
    have e2 : ((m : Int) == (m' : Int)) = true := by rw [beq_iff_eq]; omega
    have e3 : ((m : Int) != (m' : Int)) = false := by rw [bne_eq_false_iff_eq]; omega
    have ALL : ∀ q : Bool, (x2 == r) = q → b = q := fun q hq => by
      cases q
      · exact HE4.out (by simpa using hq)
      · exact HE5.out (by omega) h2 (by simpa using hq)
    obtain ⟨q, hq⟩ : ∃ q, (x2 == r) = q := ⟨_, rfl⟩
    have HB := Lib.hid (ALL q hq)
    clear ALL HE3' HE4 HE5 h2
    go_enter Try.func136, Try.ntmps136
    go_wp2_with (first | (go_at_call 90; refine (impl_isSecondR _ _).mono ?_; rintro e w' ⟨rfl, rfl⟩; rw [G1.out]) | (go_at_call 158; refine hsh.mono ?_; rintro e w' ⟨rfl, rfl⟩))
    refine wp_region_grow (by kernel_rfl) (by kernel_rfl) ?_
    repeat (go_big_quiet_step (first | fail))
    refine wpQuiet_nil ?_
    intro x3
    have hb3 := x3.ok
    have z0 : ∀ y : GW x3.val, y.val.cell? ⟨g, 0, none⟩ = _ := fun y => y0 ⟨y.val, hb3.trans (y.ok.mono hb3.size)⟩
    have z1 : ∀ y : GW x3.val, y.val.cell? ⟨g, 1, none⟩ = _ := fun y => y1 ⟨y.val, hb3.trans (y.ok.mono hb3.size)⟩
    have z2 : ∀ y : GW x3.val, y.val.cell? ⟨g, 2, none⟩ = _ := fun y => y2 ⟨y.val, hb3.trans (y.ok.mono hb3.size)⟩
    have z3 : ∀ y : GW x3.val, y.val.cell? ⟨g, 3, none⟩ = _ := fun y => y3 ⟨y.val, hb3.trans (y.ok.mono hb3.size)⟩
    have zse := fun y : GW x3.val => hse ⟨y.val, hb3.trans (y.ok.mono hb3.size)⟩
    have zsn := fun y : GW x3.val => hsn ⟨y.val, hb3.trans (y.ok.mono hb3.size)⟩
    simp only at zse zsn
    clear y0 y1 y2 y3 hse hsn c0 c1 c2 c3 u0 u1
    generalize x3.val = w3 at *
    clear x3
    go_wp2
    refine wp_region_grow (by kernel_rfl) (by kernel_rfl) ?_
    repeat (go_big_quiet_step (first | (go_at_call 135; first | with_reducible exact calls_gw_same _ (zsn _)) | (go_at_call 84; first | with_reducible exact calls_gw _ (zse _))))
    refine wpQuiet_nil ?_
    intro x4
    have hb4 := x4.ok
    generalize x4.val = w4 at *
    go_wp2
    go_ret
    exact ⟨by rw [HB.out]; rfl, hb3.trans (hb4.mono hb3.size)⟩
theorem LkAt.uniq {w : World} {lo : Nat} {zs : List Ent} : ∀ {k k' : Nat} {v : Value}, LkAt w lo zs k v → LkAt w lo zs k' v → k = k'
  | 0, 0, _, _, _ => rfl
  | 0, k' + 1, v, h, ⟨g, v', A, m, c, e, _⟩ => by
    have h' : v = .pointer none := h
    rw [h'] at e
    injection e with e
    cases e
  | k + 1, 0, v, ⟨g, v', A, m, c, e, _⟩, h => by
    have h' : v = .pointer none := h
    rw [h'] at e
    injection e with e
    cases e
  | k + 1, k' + 1, v, ⟨g, v', A, m, c, e, hl, hg, hi, hn, h⟩, ⟨g2, v2, A2, m2, c2, e2, hl2, hg2, hi2, hn2, h2⟩ => by
    rw [e] at e2
    injection e2 with e2
    injection e2 with e2
    injection e2 with e2
    subst e2
    rw [hg] at hg2
    have e3 : v' = v2 := by
      injection hg2 with hg2
      injection hg2 with hg2
      injection hg2 with hg2
      injection hg2 with _ hg2
      injection hg2 with _ hg2
      injection hg2 with _ hg2
      injection hg2
    subst e3
    rw [LkAt.uniq h h2]
theorem lk_eps {w : World} {lo : Nat} {zs : List Ent} {k : Nat} {v : Value} (h : LkAt w lo zs k v) : Classical.epsilon (fun k => LkAt w lo zs k v) = k := LkAt.uniq (Classical.epsilon_spec (p := fun k => LkAt w lo zs k v) ⟨k, h⟩) h
set_option maxHeartbeats 2000000 in
theorem impl_IsRecord (A : Option Addr) (n c B : Nat) (zs : List Ent) (w : World) (h : EntsAt w B A n zs) (hB : B ≤ w.heap.size) (hn : n ≤ 4294967296) (hm : ∀ j, j < n → (entA zs j).lights.length ≤ 1048576) :
    Calls Try.prog 86 #[.slice A n c] w fun e w' => e = .returned (.bool (isRec zs)) ∧ Below w.heap.size w w' := by
  have hl := h.1
  by_cases h60 : 60 < n
  · have HV := Lib.hid (isRec_long (zs := zs) (by omega))
    have e1 : (n : Int) > 60 := by omega
    go_enter Try.func86, Try.ntmps86
    go_wp2
    go_ret
    exact ⟨by rw [HV.out]; rfl, Below.refl _ _⟩
  have e1 : ¬ (n : Int) > 60 := by omega
  have HEND : Hid ((∀ i, i < n → entOk zs i = true) → isRec zs = true) := Lib.hid (fun hg => by rw [isRec_end (fun i hi => hg i (by omega)), hl, decide_eq_true (by omega)])
  have HNO : Hid (∀ i, i < n → entOk zs i = false → isRec zs = false) := Lib.hid (fun i hi hg => isRec_no (by omega) hg)
  have HC := impl_lastOf A n c B zs w h hB hn
  have HM := Lib.hid hm
  clear hl h hm
  go_enter Try.func86, Try.ntmps86
  go_wp2_with fail
  refine HC.mono ?_
  rintro e w1 ⟨v, rfl, hv, hb1⟩
  obtain ⟨o, rfl⟩ := hv.ptr
  have HV1 := Lib.hid hv
  have HB1 := Lib.hid hb1
  clear HC hv hb1
  go_wp2_with fail
  go_loopw [3] (fun v wr => ∃ k : Nat, k ≤ n ∧ (∃ o, v = .pointer o) ∧ LkAt wr w.heap.size zs k v ∧ (∀ j, k ≤ j → j < n → entOk zs j = true) ∧ Below w.heap.size w wr) (fun v wr => Classical.epsilon (fun k => LkAt wr w.heap.size zs k v))
  case atStart => exact ⟨n, Nat.le_refl _, ⟨_, rfl⟩, HV1.out, fun j hj hj2 => absurd hj2 (by omega), HB1.out⟩
  case round =>
    clear HV1 HB1
    obtain ⟨k, hk, ⟨o', rfl⟩, hv, hgo, hbl⟩ := hrel
    have HG := Lib.hid hgo
    have hep := lk_eps hv
    have HEP := Lib.hid hep
    clear hgo hep
    rcases k with _ | j
    · have hv' : Value.pointer o' = .pointer none := hv
      injection hv' with hv'
      subst hv'
      have HR := Lib.hid (HEND.out (fun i hi => HG.out i (Nat.zero_le _) hi))
      clear hv
      go_wp2_with fail
      go_ret
      exact ⟨by rw [HR.out]; rfl, hbl⟩
    · have hcc := impl_isValidE w.heap.size zs wr j _ hv (HM.out j (by omega))
      have HV := Lib.hid hv
      have hv2 := hv
      obtain ⟨g, v', A', m, c', e0, hlo, hg, hi, hnil, hv'⟩ := hv2
      injection e0 with e0
      subst e0
      obtain ⟨o2, rfl⟩ := hv'.ptr
      have HG2 := Lib.hid hg
      have HV' := Lib.hid hv'
      have HB := Lib.hid hbl
      clear hi hv hv' hbl hg hnil
      cases hr : entOk zs j
      · rw [hr] at hcc
        have HR := Lib.hid (HNO.out j (by omega) hr)
        clear hr
        go_wp2_with fail
        refine hcc.mono ?_
        rintro e w2 ⟨rfl, hb2⟩
        have HB2 := Lib.hid (HB.out.trans (hb2.mono HB.out.size))
        clear hb2 hcc
        go_wp2_with fail
        go_ret
        exact ⟨by rw [HR.out]; rfl, HB2.out⟩
      · rw [hr] at hcc
        have HGK : Hid (∀ i, j ≤ i → i < n → entOk zs i = true) := Lib.hid (fun i h1 h2 => by
          by_cases e : i = j
          · subst e; exact hr
          · exact HG.out i (by omega) h2)
        clear hr
        go_wp2_with fail
        refine hcc.mono ?_
        rintro e w2 ⟨rfl, hb2⟩
        have HB2 := Lib.hid (HB.out.trans (hb2.mono HB.out.size))
        have HV2 := Lib.hid (HV'.out.below hb2)
        obtain ⟨k0, k1, k2, k3⟩ := cells4 ((hb2.block _ (lt_of_block HG2.out)).trans HG2.out)
        clear hb2 hcc
        go_wp2_with fail
        go_roundw
        case rel => exact ⟨j, by omega, ⟨_, rfl⟩, HV2.out, HGK.out, HB2.out⟩
        case measure =>
          have e1 := lk_eps HV2.out
          have e2 := HEP.out
          show Classical.epsilon _ < Classical.epsilon _
          rw [e1, e2]
          omega
end Go.Proofs.Ytblilnfkpfjclaa
