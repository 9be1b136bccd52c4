/- Texts of one chain, put together: Bit PathI Inter InterI Conf Grow ConfI Mask CrossI. -/
import Derived.Laws.BitsLemmas
import Derived.BigQuiet
import Derived.Deep.QuietTactic
import Derived.Deep.Quiet
import Derived.Laws.BitsAllLaws
import Derived.StillTailTactics
import Derived.Laws.Rows
import Derived.Deep.MidRow
import Derived.Laws.ResultCell
import Derived.Test.YtmcoeafkbpeelaaBndlA
set_option linter.unusedSimpArgs false
/- Bit operations on numbers that are not negative; a path packed into one number. No program. -/
namespace Go.Proofs.Ytmcoeafkbpeelaa
open Go.RowKit

theorem i64_wraps (n : Int) (h0 : 0 ≤ n) (h1 : n < 2 ^ 63) : IntKind.i64.wrap n = n := by
  have e : (2 : Int) ^ 63 = 9223372036854775808 := by decide
  rw [e] at h1
  rw [IntKind.wrap_i64]
  omega
theorem and3 (x : Int) (h0 : 0 ≤ x) (h1 : x < 65536) : bits .and .i64 x 3 = x % 4 := by
  have e : (2 : Int) ^ 63 = 9223372036854775808 := by decide
  have h := bits_mask .i64 63 (by decide) i64_wraps 2 (by decide) x h0 (by rw [e]; omega)
  have e2 : ((2 : Int) ^ 2 - 1) = 3 := by decide
  have e3 : ((2 : Int) ^ 2) = 4 := by decide
  rw [e2, e3] at h
  exact h
theorem or4 (x y : Int) (h0 : 0 ≤ x) (h1 : x < 65536) (hx : x % 4 = 0) (hy : 0 ≤ y) (hy1 : y < 4) : bits .or .i64 x y = x + y := by
  have e : (2 : Int) ^ 63 = 9223372036854775808 := by decide
  have e3 : ((2 : Int) ^ 2) = 4 := by decide
  exact bits_join .i64 63 (by decide) i64_wraps 2 x y h0 (by rw [e3]; exact hx) (by rw [e]; omega) hy (by rw [e3]; exact hy1) (by rw [e]; omega)
/-- a valid path as one number, in bits. -/
def packN (p : Pth) : Int := if isP p then ((p.id * 4 + p.kind) * 4 + p.frm) * 4 + p.to else 0
theorem packN_no {p : Pth} (h : isP p = false) : packN p = 0 := by unfold packN; rw [h]; rfl
theorem packN_yes {p : Pth} (h : isP p = true) : packN p = ((p.id * 4 + p.kind) * 4 + p.frm) * 4 + p.to ∧ 64 ≤ packN p ∧ packN p < 2048 := by
  have hf := isP_facts p h
  have e : packN p = ((p.id * 4 + p.kind) * 4 + p.frm) * 4 + p.to := by unfold packN; rw [h]; rfl
  refine ⟨e, ?_, ?_⟩ <;> rw [e] <;> omega
theorem packN_to {p : Pth} (h : isP p = true) : packN p % 4 = p.to := by have := isP_facts p h; rw [(packN_yes h).1]; omega
theorem packN_frm {p : Pth} (h : isP p = true) : packN p / 4 % 4 = p.frm := by have := isP_facts p h; rw [(packN_yes h).1]; omega
theorem packN_kind {p : Pth} (h : isP p = true) : packN p / 16 % 4 = p.kind := by have := isP_facts p h; rw [(packN_yes h).1]; omega
theorem packN_id {p : Pth} (h : isP p = true) : packN p / 64 = p.id := by have := isP_facts p h; rw [(packN_yes h).1]; omega
end Go.Proofs.Ytmcoeafkbpeelaa

/- Chapter 4's functions of the program: valid paths, places, packed paths. -/
namespace Go.Proofs.Ytmcoeafkbpeelaa
open Go.RowKit
set_option linter.unusedVariables false

end Go.Proofs.Ytmcoeafkbpeelaa

/- Interleave: the model. -/
namespace Go.Proofs.Ytmcoeafkbpeelaa
open Go.RowKit
set_option linter.unusedVariables false

theorem nat_one (m : Nat) : ((m : Int) == 1) = decide (m = 1) := by
  by_cases h : m = 1
  · subst h; rfl
  · rw [decide_eq_false h]
    have h2 : ¬ ((m : Int) = 1) := by omega
    simpa using h2
theorem ret_val {x y : Int} (h : x = y) : Value.int .i64 x = Value.int .i64 y := by rw [h]
end Go.Proofs.Ytmcoeafkbpeelaa

/- Interleave: the program. -/
namespace Go.Proofs.Ytmcoeafkbpeelaa
open Go.RowKit
set_option linter.unusedVariables false

/-- four different places. -/
def diff4 (a b c d : Int) : Bool := decide (a ≠ b ∧ a ≠ c ∧ a ≠ d ∧ b ≠ c ∧ b ≠ d ∧ c ≠ d) && inB a 0 7 && inB b 0 7 && inB c 0 7 && inB d 0 7
theorem inter_diff (a b c d : Int) : inter a b c d = (diff4 a b c d && (betw a c b != betw a d b)) := rfl
theorem diff4_four {a b c d : Int} (h : okNs [a, b, c, d] 4) : diff4 a b c d = true := by
  obtain ⟨⟨h0, h1, h2, h3⟩, h4⟩ := okNs_four h
  unfold diff4
  rw [h0, h1, h2, h3, decide_eq_true h4]
  rfl
theorem diff4_eq {a b c d : Int} {j k : Nat} (hk : k < j) (hj : j < 4) (h : [a, b, c, d].getD j 0 = [a, b, c, d].getD k 0) : diff4 a b c d = false := by
  have h4 : ¬ (a ≠ b ∧ a ≠ c ∧ a ≠ d ∧ b ≠ c ∧ b ≠ d ∧ c ≠ d) := by
    rintro ⟨e1, e2, e3, e4, e5, e6⟩
    match j, k, hk, hj with
    | 1, 0, _, _ => exact e1 (by simpa using h.symm)
    | 2, 0, _, _ => exact e2 (by simpa using h.symm)
    | 2, 1, _, _ => exact e4 (by simpa using h.symm)
    | 3, 0, _, _ => exact e3 (by simpa using h.symm)
    | 3, 1, _, _ => exact e5 (by simpa using h.symm)
    | 3, 2, _, _ => exact e6 (by simpa using h.symm)
  unfold diff4
  rw [decide_eq_false h4]
  simp
theorem diff4_out {a b c d : Int} {j : Nat} (hj : j < 4) (h : inB ([a, b, c, d].getD j 0) 0 7 = false) : diff4 a b c d = false := by
  unfold diff4
  match j, hj with
  | 0, _ => simp at h; simp [h]
  | 1, _ => simp at h; simp [h]
  | 2, _ => simp at h; simp [h]
  | 3, _ => simp at h; simp [h]
/-- which places the first k of these numbers have taken. -/
def takenL (l : List Int) (k : Nat) : List Value := (List.range 8).map fun (j : Nat) => Value.bool (decide ((j : Int) ∈ l.take k))
theorem takenL_length (l : List Int) (k : Nat) : (takenL l k).length = 8 := by simp [takenL]
theorem takenL_at (l : List Int) (k j : Nat) (h : j < 8) : (takenL l k)[j]? = some (Value.bool (decide ((j : Int) ∈ l.take k))) := by
  simp [takenL, h]
theorem takenL_set {l : List Int} {k : Nat} (h : k < l.length) {j : Nat} (hj : l.getD k 0 = j) : (takenL l k).set j (.bool true) = takenL l (k + 1) := by
  have e : l.take (k + 1) = l.take k ++ [(j : Int)] := by
    rw [List.take_add_one, List.getElem?_eq_getElem h]
    rw [List.getD_eq_getElem?_getD, List.getElem?_eq_getElem h] at hj
    simp at hj
    simp [hj]
  apply List.ext_getElem?
  intro i
  by_cases hi : i < 8
  · rw [takenL_at _ _ _ hi, e, List.getElem?_set]
    by_cases hij : j = i
    · subst hij
      rw [if_pos rfl, if_pos (by rw [takenL_length]; exact hi)]
      simp
    · rw [if_neg hij, takenL_at _ _ _ hi]
      have : ¬ ((i : Int) = (j : Int)) := by omega
      simp [this]
  · rw [List.getElem?_eq_none (by rw [List.length_set, takenL_length]; omega), List.getElem?_eq_none (by rw [takenL_length]; omega)]
theorem take_mem {l : List Int} {k : Nat} {x : Int} (h : x ∈ l.take k) : ∃ j, j < k ∧ l.getD j 0 = x := by
  obtain ⟨j, hj, e⟩ := List.getElem_of_mem h
  rw [List.length_take] at hj
  refine ⟨j, by omega, ?_⟩
  rw [List.getElem_take] at e
  rw [List.getD_eq_getElem?_getD, List.getElem?_eq_getElem (by omega)]
  simpa using e
theorem not_take {l : List Int} {k : Nat} (hk : k ≤ l.length) {x : Int} (h : ¬ x ∈ l.take k) : ∀ j, j < k → x ≠ l.getD j 0 := by
  intro j hj e
  apply h
  rw [List.getD_eq_getElem?_getD, List.getElem?_eq_getElem (by omega)] at e
  simp at e
  rw [e]
  exact List.mem_iff_getElem.2 ⟨j, by rw [List.length_take]; omega, by rw [List.getElem_take]⟩
end Go.Proofs.Ytmcoeafkbpeelaa

/- Chapter 5's model. -/
namespace Go.Proofs.Ytmcoeafkbpeelaa
open Go.RowKit
set_option linter.unusedVariables false

/-- a path that lies at a block's head. -/
theorem pth_head {w : World} {g : Nat} {p : Pth} (h : PthAt w ⟨g, 0, none⟩ p) : w.cell? ⟨g, 0, none⟩ = some (.int .i64 p.id) ∧ w.cell? ⟨g, 1, none⟩ = some (.int .i64 p.kind) ∧ w.cell? ⟨g, 2, none⟩ = some (.int .i64 p.frm) ∧ w.cell? ⟨g, 3, none⟩ = some (.int .i64 p.to) := ⟨h.c0, h.c1, h.c2, h.c3⟩
theorem heap_size_alloc' (w : World) (o : Obj) : (w.alloc o).heap.size = w.heap.size + 1 := by simp
theorem pth_of_block {w : World} {g : Nat} {p : Pth} {T : TypeId} {fr : Nat × Nat} (h : w.heap[g]? = some (.cells #[.int .i64 p.id, .int .i64 p.kind, .int .i64 p.frm, .int .i64 p.to] T fr)) : PthAt w ⟨g, 0, none⟩ p :=
  ⟨by rw [cell_of_row w g 0 _ T fr h]; rfl, by rw [cell_of_row w g _ _ T fr h]; rfl, by rw [cell_of_row w g _ _ T fr h]; rfl, by rw [cell_of_row w g _ _ T fr h]; rfl⟩
theorem boxed_one {w w1 : World} {p : Pth} {T : TypeId} (hb : Below (w.alloc (.cells #[.int .i64 p.id, .int .i64 p.kind, .int .i64 p.frm, .int .i64 p.to] T)).heap.size (w.alloc (.cells #[.int .i64 p.id, .int .i64 p.kind, .int .i64 p.frm, .int .i64 p.to] T)) w1) :
    PthAt w1 ⟨w.heap.size, 0, none⟩ p ∧ w.heap.size + 1 ≤ w1.heap.size ∧ Below w.heap.size w w1 := by
  have hs := hb.size
  rw [heap_size_alloc'] at hs
  exact ⟨pth_of_block ((hb.block _ (by rw [heap_size_alloc']; omega)).trans (heap_alloc_new w _)), hs, ((Below.refl _ _).alloc (Nat.le_refl _) _).trans (hb.mono (by rw [heap_size_alloc']; omega))⟩
theorem boxed_two {w w1 : World} {p q : Pth} {T T2 : TypeId} (hb : Below ((w.alloc (.cells #[.int .i64 p.id, .int .i64 p.kind, .int .i64 p.frm, .int .i64 p.to] T)).alloc (.cells #[.int .i64 q.id, .int .i64 q.kind, .int .i64 q.frm, .int .i64 q.to] T2)).heap.size ((w.alloc (.cells #[.int .i64 p.id, .int .i64 p.kind, .int .i64 p.frm, .int .i64 p.to] T)).alloc (.cells #[.int .i64 q.id, .int .i64 q.kind, .int .i64 q.frm, .int .i64 q.to] T2)) w1) :
    PthAt w1 ⟨w.heap.size, 0, none⟩ p ∧ PthAt w1 ⟨w.heap.size + 1, 0, none⟩ q ∧ w.heap.size + 2 ≤ w1.heap.size ∧ Below w.heap.size w w1 := by
  have hs := hb.size
  rw [heap_size_alloc', heap_size_alloc'] at hs
  obtain ⟨p0, p1, p2, p3⟩ := p
  obtain ⟨q0, q1, q2, q3⟩ := q
  refine ⟨pth_of_block (T := T) (fr := (0, 0)) ((hb.block _ (by rw [heap_size_alloc', heap_size_alloc']; omega)).trans ((Below.heap_alloc _ _ _ (by rw [heap_size_alloc']; omega)).trans (heap_alloc_new w _))), pth_of_block (T := T2) (fr := (0, 0)) ((hb.block _ (by rw [heap_size_alloc', heap_size_alloc']; omega)).trans ?_), hs, (((Below.refl _ _).alloc (Nat.le_refl _) _).alloc (by rw [heap_size_alloc']; omega) _).trans (hb.mono (by rw [heap_size_alloc', heap_size_alloc']; omega))⟩
  have h := heap_alloc_new (w.alloc (.cells #[.int .i64 p0, .int .i64 p1, .int .i64 p2, .int .i64 p3] T)) (.cells #[.int .i64 q0, .int .i64 q1, .int .i64 q2, .int .i64 q3] T2)
  rwa [heap_size_alloc'] at h
end Go.Proofs.Ytmcoeafkbpeelaa

/- Regions that draw their order, whose operations read old memory and whose callees make new memory alone: one walk of the text's order. No program. -/
namespace Go.Proofs.Ytmcoeafkbpeelaa
open Go.RowKit

/-- a world in which only new memory has been made since w. -/
structure GW (w : World) where
  val : World
  ok : Below w.heap.size w val
instance (w : World) : Nonempty (GW w) := ⟨⟨w, Below.refl _ _⟩⟩
theorem wp_region_grow {P : Program} {id : Nat} {Q : Exit → Act → World → Prop} {a : Act} {w : World} {l : List Oper} (hm : P.follows .mixedOrders = true) (hB : Region.lexB .any l.toArray = true)
    (h : wpQuiet P l.toArray (fun w' => ∃ x : GW w, w' = x.val) (fun a' => ∀ x : GW w, Q .normal a' x.val) l a) : (Code.region id l.toArray true).wp P Q a w := by
  refine wp_region_quiet (C := fun w' => ∃ x : GW w, w' = x.val) hm hB ⟨⟨w.drew, ⟨rfl, rfl, rfl, Nat.le_refl _, fun _ _ => rfl⟩⟩, rfl⟩ ?_
  have e : (fun a' => ∀ w', (∃ x : GW w, w' = x.val) → Q .normal a' w') = (fun a' => ∀ x : GW w, Q .normal a' x.val) := by
    funext a'
    exact propext ⟨fun h x => h _ ⟨x, rfl⟩, fun h w' ⟨x, hx⟩ => hx ▸ h x⟩
  rw [e]
  simpa using h
/-- a callee's contract, met in such a world. -/
theorem calls_gw {P : Program} {f : FuncId} {args : Array Value} {w : World} {v : Value} (x : GW w) (h : Calls P f args x.val fun e w'' => e = .returned v ∧ Below x.val.heap.size x.val w'') :
    Calls P f args x.val fun e w'' => e = .returned v ∧ ∃ y : GW w, w'' = y.val := h.mono fun _ w'' ⟨he, hb⟩ => ⟨he, ⟨w'', x.ok.trans (hb.mono x.ok.size)⟩, rfl⟩
theorem calls_gw_same {P : Program} {f : FuncId} {args : Array Value} {w : World} {v : Value} (x : GW w) (h : Calls P f args x.val fun e w'' => e = .returned v ∧ x.val = w'') :
    Calls P f args x.val fun e w'' => e = .returned v ∧ ∃ y : GW w, w'' = y.val := h.mono fun _ _ ⟨he, hb⟩ => ⟨he, x, hb.symm⟩
end Go.Proofs.Ytmcoeafkbpeelaa

/- Chapter 5's program: lists of paths, conflicts. -/
namespace Go.Proofs.Ytmcoeafkbpeelaa
open Go.RowKit
set_option linter.unusedVariables false

/-- the Id of the path before the k-th. -/
def lastI (ps : List Pth) : Nat → Int
  | 0 => 0
  | m + 1 => match ps[m]? with | none => 0 | some q => q.id
theorem lastI_succ {ps : List Pth} {k : Nat} {p : Pth} (h : ps[k]? = some p) : lastI ps (k + 1) = p.id := by simp [lastI, h]
theorem goodAt_last {ps : List Pth} {k : Nat} {p : Pth} (h : ps[k]? = some p) : goodAt ps k = (isP p && decide (lastI ps k < p.id)) := by
  unfold goodAt
  rw [h]
  have hlt := (List.getElem?_eq_some_iff.1 h).1
  cases k with
  | zero =>
    cases hv : isP p
    · simp [hv]
    · have h1 := (isP_facts p hv).1
      have h0 : lastI ps 0 < p.id := by show (0 : Int) < p.id; omega
      rw [decide_eq_true h0]
      simp [hv]
  | succ m =>
    have h2 : ps[m]? = some ps[m] := List.getElem?_eq_getElem (by omega)
    simp [lastI, h2]
theorem goodAt_step {ps : List Pth} {k : Nat} (h : ∀ j, j < k → goodAt ps j = true) (h2 : goodAt ps k = true) : ∀ j, j < k + 1 → goodAt ps j = true := by
  intro j hj
  by_cases e : j = k
  · subst e; exact h2
  · exact h j (by omega)
theorem arePs_big {ps : List Pth} (h : 12 < ps.length) : arePs ps = false := by
  unfold arePs
  rw [decide_eq_false (by omega), Bool.and_false]
theorem PthAt.plain {w : World} {q : Addr} {p : Pth} (h : PthAt w q p) : w.cell? q = some (.int .i64 p.id) ∧ w.cell? ⟨q.block, q.off + 1, none⟩ = some (.int .i64 p.kind) ∧ w.cell? ⟨q.block, q.off + 2, none⟩ = some (.int .i64 p.frm) ∧ w.cell? ⟨q.block, q.off + 3, none⟩ = some (.int .i64 p.to) := ⟨h.c0, h.c1, h.c2, h.c3⟩
end Go.Proofs.Ytmcoeafkbpeelaa

/- Sets of indexes as masks. No program. -/
namespace Go.Proofs.Ytmcoeafkbpeelaa
open Go.RowKit
set_option linter.unusedVariables false

/-- the set of those below n for which f holds. -/
def maskF (f : Nat → Bool) : Nat → Nat
  | 0 => 0
  | n + 1 => maskF f n ||| (if f n then 2 ^ n else 0)
theorem maskF_bit (f : Nat → Bool) (n j : Nat) : (maskF f n).testBit j = (decide (j < n) && f j) := by
  induction n with
  | zero => simp [maskF]
  | succ n ih =>
    rw [maskF, Nat.testBit_or, ih]
    by_cases h : f n
    · rw [if_pos h, Nat.testBit_two_pow]
      by_cases e : n = j
      · subst e; simp [h]
      · have e1 : decide (j < n + 1) = decide (j < n) := by simp; omega
        rw [e1]
        simp [e]
    · rw [if_neg h, Nat.zero_testBit]
      by_cases e : n = j
      · subst e; simp [h]
      · have e1 : decide (j < n + 1) = decide (j < n) := by simp; omega
        rw [e1]
        simp
theorem maskF_lt (f : Nat → Bool) (n : Nat) : maskF f n < 2 ^ n := by
  refine Nat.lt_pow_two_of_testBit _ fun i hi => ?_
  rw [maskF_bit, decide_eq_false (by omega)]
  rfl
theorem mask_ext {a b : Nat} (h : ∀ j, a.testBit j = b.testBit j) : a = b := Nat.eq_of_testBit_eq h
theorem mask_lt {m n : Nat} (h : ∀ j, n ≤ j → m.testBit j = false) : m < 2 ^ n := Nat.lt_pow_two_of_testBit _ fun i hi => h i hi
theorem bit_lt {i : Nat} (h : i < 12) : 2 ^ i < 65536 := Nat.lt_of_lt_of_le (Nat.pow_lt_pow_right (by decide) h) (by decide)
theorem or_lt {a b : Nat} (ha : a < 4096) (hb : b < 4096) : a ||| b < 4096 := Nat.or_lt_two_pow (n := 12) ha hb
theorem shl_bit (i : Nat) (h : i < 12) : IntKind.u16.wrap (1 * 2 ^ min i 16) = ((2 ^ i : Nat) : Int) := by
  have hb := bit_lt h
  rw [Nat.min_eq_left (by omega), Int.one_mul, IntKind.wrap_u16]
  have e : ((2 : Int) ^ i) = ((2 ^ i : Nat) : Int) := by simp
  rw [e]
  generalize 2 ^ i = x at hb ⊢
  omega
end Go.Proofs.Ytmcoeafkbpeelaa

/- crossingOf: the program. -/
namespace Go.Proofs.Ytmcoeafkbpeelaa
open Go.RowKit
set_option linter.unusedVariables false

/-- the a-th and the b-th path conflict. -/
def confAt (ps : List Pth) (a b : Nat) : Bool := match ps[a]?, ps[b]? with
  | some p, some q => conf p q
  | _, _ => false
/-- the pairs that have been gone through, at i and j. -/
def stB (ps : List Pth) (i j k l : Nat) : Bool :=
  if l < k then (decide (k < i) || (decide (k = i) && decide (l < j))) && confAt ps k l
  else if k < l then (decide (l < i) || (decide (l = i) && decide (k < j))) && confAt ps l k
  else false
def rowSt (ps : List Pth) (i j k : Nat) : Nat := maskF (stB ps i j k) 12
theorem rowSt_lt (ps : List Pth) (i j k : Nat) : rowSt ps i j k < 4096 := maskF_lt _ 12
theorem rowSt_bit (ps : List Pth) (i j k l : Nat) : (rowSt ps i j k).testBit l = (decide (l < 12) && stB ps i j k l) := maskF_bit _ _ _
/-- the cells of a crossing. -/
def xcells (A : Option Addr) (n c : Nat) (f : Nat → Nat) : List Value := .slice A n c :: (List.range 12).map fun k => Value.int .u16 (f k : Nat)
theorem xcells_length (A : Option Addr) (n c : Nat) (f : Nat → Nat) : (xcells A n c f).length = 13 := by simp [xcells]
theorem xcells_row (A : Option Addr) (n c : Nat) (f : Nat → Nat) (k : Nat) (h : k < 12) : (xcells A n c f)[1 + k]? = some (.int .u16 (f k : Nat)) := by
  rw [Nat.add_comm]
  simp [xcells, h]
theorem xcells_set (A : Option Addr) (n c : Nat) (f : Nat → Nat) (k m : Nat) (h : k < 12) : (xcells A n c f).set (1 + k) (.int .u16 (m : Nat)) = xcells A n c fun l => if l = k then m else f l := by
  unfold xcells
  rw [Nat.add_comm, List.set_cons_succ]
  congr 1
  apply List.ext_getElem?
  intro i
  rw [List.getElem?_set]
  by_cases hi : i < 12
  · by_cases e : k = i
    · subst e; simp [h]
    · have e2 : ¬ i = k := fun h => e h.symm
      simp [e, e2, hi]
  · rw [List.getElem?_eq_none (by simp; omega)]
    have e : ¬ k = i := by omega
    rw [if_neg e, List.getElem?_eq_none (by simp; omega)]
theorem st_step_no {ps : List Pth} {i j : Nat} (hj : j < i) (hc : confAt ps i j = false) (k : Nat) : rowSt ps i (j + 1) k = rowSt ps i j k := by
  apply mask_ext
  intro l
  rw [rowSt_bit, rowSt_bit]
  congr 1
  unfold stB
  by_cases h1 : l < k
  · rw [if_pos h1, if_pos h1]
    by_cases e : k = i ∧ l = j
    · rw [e.1, e.2, hc]; simp
    · have : (decide (k = i) && decide (l < j + 1)) = (decide (k = i) && decide (l < j)) := by
        by_cases ek : k = i
        · have : ¬ l = j := fun el => e ⟨ek, el⟩
          have : decide (l < j + 1) = decide (l < j) := by simp; omega
          rw [this]
        · simp [ek]
      rw [this]
  · rw [if_neg h1, if_neg h1]
    by_cases h2 : k < l
    · rw [if_pos h2, if_pos h2]
      by_cases e : l = i ∧ k = j
      · rw [e.1, e.2, hc]; simp
      · have : (decide (l = i) && decide (k < j + 1)) = (decide (l = i) && decide (k < j)) := by
          by_cases el : l = i
          · have : ¬ k = j := fun ek => e ⟨el, ek⟩
            have : decide (k < j + 1) = decide (k < j) := by simp; omega
            rw [this]
          · simp [el]
        rw [this]
    · rw [if_neg h2, if_neg h2]
theorem st_step_yes {ps : List Pth} {i j : Nat} (hj : j < i) (hi : i < 12) (hc : confAt ps i j = true) (k : Nat) :
    rowSt ps i (j + 1) k = if k = j then rowSt ps i j j ||| 2 ^ i else if k = i then rowSt ps i j i ||| 2 ^ j else rowSt ps i j k := by
  apply mask_ext
  intro l
  by_cases ek : k = j
  · subst ek
    rw [if_pos rfl, Nat.testBit_or, rowSt_bit, rowSt_bit, Nat.testBit_two_pow]
    unfold stB
    by_cases h1 : l < k
    · have e1 : ¬ i = l := by omega
      have e2 : decide (k = i) = false := decide_eq_false (by omega)
      simp [h1, e1, e2]
    · by_cases h2 : k < l
      · by_cases el : l = i
        · subst el
          simp [h1, h2, hc]
          omega
        · have e1 : ¬ i = l := fun h => el h.symm
          simp [h1, h2, el, e1]
      · have : l = k := by omega
        subst this
        have e1 : ¬ i = l := by omega
        simp [e1]
  · rw [if_neg ek]
    by_cases e2 : k = i
    · subst e2
      rw [if_pos rfl, Nat.testBit_or, rowSt_bit, rowSt_bit, Nat.testBit_two_pow]
      unfold stB
      by_cases h1 : l < k
      · by_cases el : l = j
        · subst el
          simp [h1, hc]
          omega
        · have e1 : ¬ j = l := fun h => el h.symm
          have e3 : decide (l < j + 1) = decide (l < j) := by simp; omega
          simp [h1, e1, e3]
      · have e1 : ¬ j = l := by omega
        by_cases h2 : k < l
        · have e3 : decide (l = k) = false := decide_eq_false (by omega)
          simp [h1, h2, e1, e3]
        · have : l = k := by omega
          subst this
          simp [e1]
    · rw [if_neg e2, rowSt_bit, rowSt_bit]
      congr 1
      unfold stB
      by_cases h1 : l < k
      · simp [h1, e2]
      · by_cases h2 : k < l
        · by_cases el : l = i
          · subst el
            have e3 : decide (k < j + 1) = decide (k < j) := by simp; omega
            simp [h1, h2, e3]
          · simp [h1, h2, el]
        · simp [h1, h2]
theorem st_next {ps : List Pth} {i : Nat} (k : Nat) : rowSt ps i i k = rowSt ps (i + 1) 0 k := by
  apply mask_ext
  intro l
  rw [rowSt_bit, rowSt_bit]
  congr 1
  unfold stB
  by_cases h1 : l < k
  · have : (decide (k < i) || (decide (k = i) && decide (l < i))) = (decide (k < i + 1) || (decide (k = i + 1) && decide (l < 0))) := by
      rw [Bool.eq_iff_iff]; simp; omega
    rw [if_pos h1, if_pos h1, this]
  · by_cases h2 : k < l
    · have : (decide (l < i) || (decide (l = i) && decide (k < i))) = (decide (l < i + 1) || (decide (l = i + 1) && decide (k < 0))) := by
        rw [Bool.eq_iff_iff]; simp; omega
      rw [if_neg h1, if_neg h1, if_pos h2, if_pos h2, this]
    · rw [if_neg h1, if_neg h1, if_neg h2, if_neg h2]
theorem st_zero (ps : List Pth) (k : Nat) : rowSt ps 0 0 k = 0 := by
  apply mask_ext
  intro l
  rw [rowSt_bit, Nat.zero_testBit]
  unfold stB
  by_cases h1 : l < k
  · simp [h1]
  · by_cases h2 : k < l <;> simp [h1, h2]
end Go.Proofs.Ytmcoeafkbpeelaa
