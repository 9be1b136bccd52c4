/- Slices of numbers that a call has made: what they hold; append, make and stores on them. No program. -/
import Derived.Test.YtmcoeafkbpeelaaKit
import Derived.Maps.AppendAt
import Derived.Laws.AppendOwnNone
import Derived.Laws.OwnMore
import Derived.OwnWalk
namespace Go.Proofs.Ytmcoeafkbpeelaa
open Go.RowKit

theorem heap_set {w : World} {g : Nat} {cs : Array Value} {t : TypeId} (h : w.heap[g]? = some (.cells cs t (0, 0))) (i : Nat) (u : Value) :
    (w.setCell ⟨g, i, none⟩ u).heap[g]? = some (.cells (cs.setIfInBounds i u) t (0, 0)) := by
  simp [World.setCell, Array.getElem?_modify, h]
/-- Only block g, and what is new, has turned. -/
theorem only_drewN {a w : World} {row : Option Nat} (h : a.grownBy w row) (n : Nat) : a.grownBy (w.drewN n) row := ⟨h.os, h.tape, h.output, h.size, h.block⟩
theorem only_alloc {a w : World} {row : Option Nat} (h : a.grownBy w row) (o : Obj) : a.grownBy (w.alloc o) row :=
  ⟨h.os, h.tape, h.output, Nat.le_trans h.size (by simp), fun k hk hne => (Below.heap_alloc w o k (Nat.lt_of_lt_of_le hk h.size)).trans (h.block k hk hne)⟩
theorem only_trans {a b c : World} {g : Nat} (h : a.grownBy b (some g)) (k : b.grownBy c (some g)) : a.grownBy c (some g) :=
  ⟨k.os.trans h.os, k.tape.trans h.tape, k.output.trans h.output, Nat.le_trans h.size k.size, fun i hi hne => (k.block i (Nat.lt_of_lt_of_le hi h.size) hne).trans (h.block i hi hne)⟩
theorem below_of_only {a w : World} {g B : Nat} (h : a.grownBy w (some g)) (hB : B ≤ g) (hs : B ≤ a.heap.size) : Below B a w :=
  ⟨h.os, h.tape, h.output, h.size, fun k hk => h.block k (by omega) (fun e => by injection e with e; omega)⟩
theorem only_of_below {a w : World} (h : Below a.heap.size a w) (row : Option Nat) : a.grownBy w row := ⟨h.os, h.tape, h.output, h.size, fun i hi _ => h.block i hi⟩
theorem only_setCell {a w : World} {g : Nat} (h : a.grownBy w (some g)) (i : Nat) (u : Value) : a.grownBy (w.setCell ⟨g, i, none⟩ u) (some g) :=
  ⟨h.os, h.tape, h.output, by simpa [World.setCell] using h.size, fun k hk hne => (Below.heap_setCell w _ u k (fun e => hne (by rw [e]))).trans (h.block k hk hne)⟩

/-- v is a slice over a row of the call's own (a block from lo on) that holds these integers; or nil. -/
def Own (k : IntKind) (E : TypeId) (w : World) (lo : Nat) (v : Value) (zs : List Int) : Prop := w.ownsRow lo E 1 v zs.length (zs.map (Value.int k))
theorem own_nil (k : IntKind) (E : TypeId) (w : World) (lo : Nat) : Own k E w lo (.slice none 0 0) [] := World.ownsRow_nil _ _ _ _
theorem Own.shape {k : IntKind} {E : TypeId} {w : World} {lo : Nat} {v : Value} {zs : List Int} (h : Own k E w lo v zs) :
    (v = .slice none 0 0 ∧ zs = []) ∨ ∃ g cap, v = .slice (some ⟨g, 0, none⟩) zs.length cap ∧ lo ≤ g ∧ g < w.heap.size ∧ zs.length ≤ cap ∧ cap ≤ maxLen := by
  rcases h.2 with ⟨h1, h2⟩ | ⟨g, cap, cur, hv, hb, hg, hc, hm, _⟩
  · exact .inl ⟨h1, List.eq_nil_of_length_eq_zero h2⟩
  · exact .inr ⟨g, cap, hv, hb, lt_of_block hg, hc, hm⟩
theorem Own.sliced {k : IntKind} {E : TypeId} {w : World} {lo : Nat} {v : Value} {zs : List Int} (h : Own k E w lo v zs) : ∃ A c, v = .slice A zs.length c := by
  rcases h.shape with ⟨rfl, rfl⟩ | ⟨g, cap, rfl, _⟩
  · exact ⟨_, _, rfl⟩
  · exact ⟨_, _, rfl⟩
theorem Own.len {k : IntKind} {E : TypeId} {w : World} {lo : Nat} {A : Option Addr} {n c : Nat} {zs : List Int} (h : Own k E w lo (.slice A n c) zs) : n = zs.length := by
  obtain ⟨A', c', e⟩ := h.sliced
  injection e
theorem Own.block {k : IntKind} {E : TypeId} {w : World} {lo : Nat} {v : Value} {zs : List Int} (h : Own k E w lo v zs) : ∀ g, v.ownBlock = some g → lo ≤ g ∧ g < w.heap.size := h.lt
theorem Own.mono {k : IntKind} {E : TypeId} {w : World} {lo lo' : Nat} {v : Value} {zs : List Int} (h : Own k E w lo v zs) (hl : lo' ≤ lo) : Own k E w lo' v zs := by
  refine ⟨h.1, ?_⟩
  rcases h.2 with h2 | ⟨g, cap, cur, hv, hb, hg, r⟩
  · exact .inl h2
  · exact .inr ⟨g, cap, cur, hv, by omega, hg, r⟩
theorem Own.grown {k : IntKind} {E : TypeId} {w w' : World} {lo : Nat} {v : Value} {zs : List Int} {row : Option Nat} (h : Own k E w lo v zs) (hg : w.grownBy w' row) (hne : ∀ g, v.ownBlock = some g → row ≠ some g) : Own k E w' lo v zs :=
  World.ownsRow.kept h hg (by
    cases e : v.ownBlock with
    | none => exact .inl rfl
    | some g => exact .inr fun e' => hne g e e'.symm)
theorem Own.under {k : IntKind} {E : TypeId} {w w' : World} {lo B : Nat} {v : Value} {zs : List Int} (h : Own k E w lo v zs) (hb : Below B w w') (hB : ∀ g, v.ownBlock = some g → g < B) : Own k E w' lo v zs := by
  refine ⟨h.1, ?_⟩
  rcases h.2 with h2 | ⟨g, cap, cur, rfl, hl, hg, r⟩
  · exact .inl h2
  · exact .inr ⟨g, cap, cur, rfl, hl, (hb.block g (hB g rfl)).trans hg, r⟩
theorem Own.below {k : IntKind} {E : TypeId} {w w' : World} {lo : Nat} {v : Value} {zs : List Int} (h : Own k E w lo v zs) (hb : Below w.heap.size w w') : Own k E w' lo v zs := h.under hb fun g e => (h.block g e).2
theorem Own.alloc {k : IntKind} {E : TypeId} {w : World} {lo : Nat} {v : Value} {zs : List Int} (h : Own k E w lo v zs) (o : Obj) : Own k E (w.alloc o) lo v zs := World.ownsRow.alloc h o
theorem add_head (g j : Nat) : (⟨g, 0, none⟩ : Addr).add j = ⟨g, j, none⟩ := by unfold Addr.add; split <;> simp_all
theorem Own.cell {k : IntKind} {E : TypeId} {w : World} {lo : Nat} {g n c : Nat} {zs : List Int} (h : Own k E w lo (.slice (some ⟨g, 0, none⟩) n c) zs) (j : Nat) (hj : j < zs.length) : w.cell? ⟨g, j, none⟩ = some (.int k (zs.getD j 0)) := by
  have hn := h.len
  subst hn
  have h' : w.ownsRow lo E 1 (.slice (some ⟨g, 0, none⟩) zs.length c) zs.length (zs.map (Value.int k)) := h
  rw [h'.cellAt j (by omega)]
  simp [List.getD_eq_getElem?_getD, List.getElem?_eq_getElem hj]
theorem Own.free {k : IntKind} {E : TypeId} {w : World} {lo : Nat} {g n c : Nat} {zs : List Int} (h : Own k E w lo (.slice (some ⟨g, 0, none⟩) n c) zs) (j : Nat) : w.frozen? ⟨g, j, none⟩ = false := by
  have hn := h.len
  subst hn
  have h' : w.ownsRow lo E 1 (.slice (some ⟨g, 0, none⟩) zs.length c) zs.length (zs.map (Value.int k)) := h
  exact h'.frozenAt j
theorem Own.ints {k : IntKind} {E : TypeId} {w : World} {lo : Nat} {A : Option Addr} {n c : Nat} {zs : List Int} (h : Own k E w lo (.slice A n c) zs) : IntsAt k w w.heap.size A n zs := by
  have hn := h.len
  refine ⟨hn.symm, fun h0 => ?_⟩
  rcases h.shape with ⟨e, rfl⟩ | ⟨g, cap, e, hb, hlt, _⟩
  · simp at hn; omega
  · injection e with e1 e2 e3
    subst e1
    exact ⟨_, rfl, hlt, fun j hj => by rw [add_head]; exact h.cell j (by omega)⟩
theorem Own.stored {k : IntKind} {E : TypeId} {w : World} {lo : Nat} {g n c : Nat} {zs : List Int} (h : Own k E w lo (.slice (some ⟨g, 0, none⟩) n c) zs) (j : Nat) (x : Int) :
    Own k E (w.setCell ⟨g, j, none⟩ (.int k x)) lo (.slice (some ⟨g, 0, none⟩) n c) (zs.set j x) := by
  have hn := h.len
  subst hn
  have h' : w.ownsRow lo E 1 (.slice (some ⟨g, 0, none⟩) zs.length c) zs.length (zs.map (Value.int k)) := h
  have h2 := (h'.stored j (.int k x)).1
  unfold Own
  rw [List.length_set, List.map_set]
  exact h2
theorem own_lit {k : IntKind} {E : TypeId} (w : World) {lo : Nat} (zs : List Int) (n : Nat) (hb : lo ≤ w.heap.size) (hm : n ≤ maxLen) (hn : zs.length = n) :
    Own k E (w.alloc (.cells (zs.map (Value.int k)).toArray E)) lo (.slice (some ⟨w.heap.size, 0, none⟩) n n) zs := by
  subst hn
  have h := World.ownsRow_lit (base := lo) (e := E) (size := 1) w (zs.map (Value.int k)).toArray zs.length hb hm (by simp)
  unfold Own
  simpa using h
theorem made_ints (k : IntKind) (n : Nat) : (madeCells (Value.int k 0).cells (n * 1)).toList = (List.replicate n 0).map (Value.int k) := by
  simp only [madeCells, Value.cells]
  apply List.ext_getElem?
  intro i
  simp only [Array.toList_map, List.getElem?_map, Nat.mul_one]
  by_cases h : i < n
  · simp [h, Nat.mod_one]
  · simp [h]
theorem getD_set_self (zs : List Int) (j : Nat) (x : Int) (h : j < zs.length) : (zs.set j x).getD j 0 = x := by
  simp [List.getD_eq_getElem?_getD, h]

/-- The second type of an append is looked at for a number alone. -/
theorem run_append_types {P : Program} {t tx e ex : TypeId} (ht : P.underlying t = some (.slice e)) (hx : P.underlying tx = some (.slice ex)) (ty : TypeId) (A : Option Addr) (n c : Nat) (x : Value) (w : World) :
    (Builtin.append_ #[t, tx] ty #[.slice A n c, x]).run P w = (Builtin.append_ #[t, t] ty #[.slice A n c, x]).run P w := by
  simp [Builtin.append_, run_underlying ht, run_underlying hx]
theorem ints_news {k : IntKind} {w : World} {B : Nat} {ad : Addr} {m : Nat} {zs : List Int} (h : IntsAt k w B (some ad) m zs) : ∀ j u, (zs.map (Value.int k))[j]? = some u → w.cell? (ad.add j) = some u := by
  intro j u hu
  obtain ⟨z, hz, rfl⟩ := Option.map_eq_some_iff.1 ((List.getElem?_map).symm.trans hu)
  obtain ⟨hj, hz'⟩ := List.getElem?_eq_some_iff.1 hz
  have hm := h.1
  obtain ⟨ad', e, _, hc⟩ := h.2 (by omega)
  injection e with e
  subst e
  rw [hc j (by omega), List.getD_eq_getElem?_getD, hz]
  rfl
theorem ints_one (k : IntKind) (zs : List Int) : ∀ u ∈ zs.map (Value.int k), u.oneCell' = true := by
  intro u hu
  obtain ⟨z, _, rfl⟩ := List.mem_map.1 hu
  rfl

/-- A guarded operation that is wanted is carried out as one without a guard. -/
theorem wpList_want {P : Program} {w : World} {ops : Array Oper} {rest : List Oper} {o : Oper} {a : Act} {Q : Exit → Act → World → Prop} (hw : Region.wanted o (yielded ops a.tmps) = true)
    (h : wpList P ops Q ({ o with guard := none } :: rest) a w) : wpList P ops Q (o :: rest) a w := by
  unfold wpList at h ⊢
  rw [if_pos hw]
  rw [if_pos (by simp [Region.wanted])] at h
  exact h
/-- 'append(v, x...)', v of the call's own or nil, x a slice of the same numbers, whatever it is. -/
theorem wpList_app {P : Program} {w : World} {ops : Array Oper} {rest : List Oper} {o : Oper} {a : Act} {Q : Exit → Act → World → Prop} (hgd : o.guard = none) (s x : Operand) (t tx : TypeId)
    (ho : o.op = .call { callee := .builtin .append, args := #[s, x], argTypes := #[t, tx] })
    (k : IntKind) (E ex : TypeId) (bytes : Nat) (ht : P.underlying t = some (.slice E)) (htx : P.underlying tx = some (.slice ex)) (hi : (P.info? E).map (fun i => (i.zero, i.size, i.bytes)) = some (some (.int k 0), 1, bytes))
    (lo : Nat) (v : Value) (xs : List Int) (hs : a.eval s = v) (hown : Own k E w lo v xs)
    (A : Option Addr) (m c B : Nat) (zs : List Int) (hx : a.eval x = .slice A m c) (hsrc : IntsAt k w B A m zs) (hnil : A = none → m = 0 ∧ c = 0) (hb : bytes ≤ 8)
    (hbytes : xs.length + m ≤ 4398046511104) (hlo : lo ≤ w.heap.size)
    (h : ∀ v' w', Own k E w' lo v' (xs ++ zs) → w.grownBy w' v.ownBlock → (v'.ownBlock = v.ownBlock ∨ v'.ownBlock = some w.heap.size) → wpList P ops Q rest (a.put o.dst v') w') :
    wpList P ops Q (o :: rest) a w := by
  refine wpList_plain hgd fun K hK => ?_
  obtain ⟨i, hi1, hz, hsz, hby⟩ := info_parts hi
  have hzs := hsrc.1
  obtain ⟨Av, cv, hv⟩ := hown.sliced
  cases A with
  | none =>
    obtain ⟨rfl, rfl⟩ := hnil rfl
    have hz0 : zs = [] := List.eq_nil_of_length_eq_zero hzs
    subst hz0
    have hrun := run_append_owned_none (P := P) (w := w) lo t o.type E i 1 ht hi1 v xs.length _ hown
    have hrun2 := (run_append_types ht htx o.type Av xs.length cv (.slice none 0 0) w).trans (hv ▸ hrun)
    unfold Oper.wp
    simp [execOp, ho, resolve, invoke, builtin, hs, hx, hv, hrun2, Result.andThen]
    exact hK _ _ (hv ▸ h v w (by rw [List.append_nil]; exact hown) (World.grownBy.refl _ _) (.inl rfl))
  | some ad =>
    obtain ⟨v', w', hr, h2, h3, h4, h5⟩ := run_append_own_at (P := P) w lo t o.type E i (.int k 0) 1 bytes ht hi1 hz hsz hby rfl (by omega) v xs.length _ hown ad m c (zs.map (Value.int k)) (by simp [hzs]) (ints_news hsrc) (ints_one k zs)
      (by unfold maxLen; omega) (by have : (xs.length + m) * bytes ≤ (xs.length + m) * 8 := Nat.mul_le_mul_left _ hb; omega) hlo
    have hrun2 := (run_append_types ht htx o.type Av xs.length cv (.slice (some ad) m c) w).trans (hv ▸ hr)
    unfold Oper.wp execOp
    simp only [ho, resolve, invoke, builtin, Sem.run_bind, Sem.run_pure, Result.andThen_ok, List.map_toArray, List.map_cons, List.map_nil, hs, hx, hv, hrun2]
    refine hK _ _ (h v' w' ?_ h3 h5)
    unfold Own
    rw [List.length_append, List.map_append, hzs]
    exact h2
/-- 'append(v, x)', one number: it lies in a block of its own, the newest. -/
theorem wpList_app1 {P : Program} {w : World} {ops : Array Oper} {rest : List Oper} {o : Oper} {a : Act} {Q : Exit → Act → World → Prop} (hgd : o.guard = none) (s x : Operand) (t : TypeId)
    (ho : o.op = .call { callee := .builtin .append, args := #[s, x], argTypes := #[t, t] })
    (k : IntKind) (E : TypeId) (bytes : Nat) (ht : P.underlying t = some (.slice E)) (hi : (P.info? E).map (fun i => (i.zero, i.size, i.bytes)) = some (some (.int k 0), 1, bytes))
    (lo : Nat) (v : Value) (xs : List Int) (hs : a.eval s = v) (hown : Own k E w lo v xs) (hb : bytes ≤ 8) (hbytes : xs.length < 4398046511104)
    (z : Int) (fr : Nat × Nat) (T : TypeId) (H : Nat) (hlo : lo ≤ H) (hx : a.eval x = .slice (some ⟨H, 0, none⟩) 1 1) (hH : (w.alloc (.cells #[.int k z] T fr)).heap.size = H + 1)
    (h : ∀ v' w', Own k E w' lo v' (xs ++ [z]) → (w.alloc (.cells #[.int k z] T fr)).grownBy w' v.ownBlock → (v'.ownBlock = v.ownBlock ∨ v'.ownBlock = some (H + 1)) → wpList P ops Q rest (a.put o.dst v') w') :
    wpList P ops Q (o :: rest) a (w.alloc (.cells #[.int k z] T fr)) := by
  have hH' : w.heap.size = H := by simpa using hH
  subst hH'
  have hc : (w.alloc (.cells #[.int k z] T fr)).cell? ⟨w.heap.size, 0, none⟩ = some (.int k z) := by
    rw [cell_of_row _ _ 0 #[.int k z] T fr (heap_alloc_new w _)]; rfl
  refine wpList_app hgd s x t t ho k E E bytes ht ht hi lo v xs hs (hown.alloc _) (some ⟨w.heap.size, 0, none⟩) 1 1 (w.heap.size + 1) [z] hx ⟨rfl, fun _ => ⟨_, rfl, by simp, fun j hj => ?_⟩⟩ (by simp) hb (by omega) (by simp; omega) (fun v' w' h1 h2 h3 => h v' w' h1 h2 (by simpa using h3))
  obtain rfl : j = 0 := by omega
  rw [add_head]
  exact hc
/-- 'make([]T, n)'. -/
theorem wpList_mk {P : Program} {w : World} {ops : Array Oper} {rest : List Oper} {o : Oper} {a : Act} {Q : Exit → Act → World → Prop}
    (hg : o.guard = none) (l c : Operand) (t : TypeId) (hop : o.op = Op.makeSlice t l c)
    (k : IntKind) (E : TypeId) (bytes : Nat) (ht : P.underlying t = some (.slice E)) (hi : (P.info? E).map (fun i => (i.zero, i.size, i.bytes)) = some (some (.int k 0), 1, bytes)) (hb : bytes ≤ 8)
    (L C : Int) (n : Nat) (hl : a.eval l = .int .i64 L) (hc : a.eval c = .int .i64 C) (hL : L = (n : Int)) (hC : C = (n : Int)) (hn : n ≤ 4398046511104)
    (hK : ∀ w', Own k E w' w.heap.size (.slice (some ⟨w.heap.size, 0, none⟩) n n) (List.replicate n 0) → w.grownBy w' none → wpList P ops Q rest (a.put o.dst (.slice (some ⟨w.heap.size, 0, none⟩) n n)) w') :
    wpList P ops Q (o :: rest) a w := by
  obtain ⟨i, hi1, hz, hsz, hby⟩ := info_parts hi
  refine wpList_make_full w hg l c t hop w.heap.size E i (.int k 0) 1 ht hi1 hz hsz .i64 .i64 L C n hl hc hL hC (by rw [hby]; have : bytes * n ≤ 8 * n := Nat.mul_le_mul_right _ hb; omega) (by unfold maxLen; omega) (Nat.le_refl _) fun w' h1 h2 => hK w' ?_ h2
  unfold Own
  rw [made_ints] at h1
  simpa using h1
/-- 'make([]T, 0, n)'. -/
theorem wpList_mk0 {P : Program} {w : World} {ops : Array Oper} {rest : List Oper} {o : Oper} {a : Act} {Q : Exit → Act → World → Prop}
    (hg : o.guard = none) (l c : Operand) (t : TypeId) (hop : o.op = Op.makeSlice t l c)
    (k : IntKind) (E : TypeId) (bytes : Nat) (ht : P.underlying t = some (.slice E)) (hi : (P.info? E).map (fun i => (i.zero, i.size, i.bytes)) = some (some (.int k 0), 1, bytes)) (hb : bytes ≤ 8)
    (C : Int) (n : Nat) (hl : a.eval l = .int .i64 0) (hc : a.eval c = .int .i64 C) (hC : C = (n : Int)) (hn : n ≤ 4398046511104)
    (hK : ∀ w', Own k E w' w.heap.size (.slice (some ⟨w.heap.size, 0, none⟩) 0 n) [] → w.grownBy w' none → wpList P ops Q rest (a.put o.dst (.slice (some ⟨w.heap.size, 0, none⟩) 0 n)) w') :
    wpList P ops Q (o :: rest) a w := by
  obtain ⟨i, hi1, hz, hsz, hby⟩ := info_parts hi
  exact wpList_make_own w hg l c t hop w.heap.size E i (.int k 0) 1 ht hi1 hz hsz .i64 .i64 C n hl hc hC (by rw [hby]; have : bytes * n ≤ 8 * n := Nat.mul_le_mul_right _ hb; omega) (by unfold maxLen; omega) (Nat.le_refl _) fun w' h1 h2 => hK w' h1 h2
theorem Own.push {k : IntKind} {E : TypeId} {a w0 w w' : World} {B lo : Nat} {v : Value} {zs : List Int} (h : Own k E w0 lo v zs) (hl : B ≤ lo) (hb : Below B a w) (hB : B ≤ w.heap.size) (hg : w.grownBy w' v.ownBlock) : Below B a w' :=
  hb.grown hg hB fun g e => Nat.le_trans hl (h.block g e).1
theorem own_bare (k : IntKind) (E : TypeId) (w : World) : Own k E (w.alloc (.cells #[] E)) w.heap.size (.slice (some ⟨w.heap.size, 0, none⟩) 0 0) [] := own_lit w [] 0 (Nat.le_refl _) (by decide) rfl
theorem eql_slice_nil {P : Program} {t e : TypeId} (ht : P.underlying t = some (.slice e)) (A : Option Addr) (n c : Nat) (w : World) :
    (binOp .eql t (.slice A n c) (.slice none 0 0)).run P w = .ok (.bool A.isNone) w := by
  have h : ∀ d : Nat, (Op.equalIn (d + 1) t (.slice A n c) (.slice none 0 0)).run P w = .ok A.isNone w := fun d => by
    cases A <;> simp [Op.equalIn, run_underlying ht]
  simp only [binOp]
  simp [Op.equal, Op.maxDepth, h 9999]
theorem below_undrew {B : Nat} {w w' : World} (h : Below B w.drew w') : Below B w w' := ⟨h.os, h.tape, h.output, h.size, h.block⟩
theorem below_grown {w w' : World} (h : w.grownBy w' none) : Below w.heap.size w w' := ⟨h.os, h.tape, h.output, h.size, fun i hi => h.block i hi (by simp)⟩
end Go.Proofs.Ytmcoeafkbpeelaa
