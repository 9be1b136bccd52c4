/- Texts of one chain, put together: Kit Own Row Ints Pth Help Path Inter Mem Pths Conf Grow Conf2 Tog Tog2 Stg ClrP ClrM Bit PathI InterI ConfI Law LawLaid ClrT PthM WtB LawSir LawVars LawPth LawCtl Stg2 Stg3 SS. -/
import Derived.WalkKit
import Derived.IntWalk
import Derived.Laws.BytesString
import Derived.Lib.Hide
import Derived.RegionTactic
import Derived.BigQuiet
import Derived.Deep.QuietTactic
import Derived.Maps.AppendAt
import Derived.Laws.AppendOwnNone
import Derived.Laws.OwnMore
import Derived.OwnWalk
import Derived.Deep.AppendLies
import Derived.Test.YtmpcbkonelcceaaDoorRows
import Derived.Deep.RegionHeld3
import Derived.Deep.DrawnRows
import Derived.Deep.Quiet
import Derived.Laws.BitsLemmas
import Derived.ProofKit
import Derived.OpenShut
import Derived.Carry
import Derived.Lay
import Derived.MakeChecks
import Derived.LaidSub
import Derived.LaidHandle
import Derived.Stop.Joined
import Derived.LaidLaws
import Derived.Lib.LaidTab
import Derived.Lib.SmallJoins
import Derived.OpenVars
import Derived.RowKitTokens
import Derived.Deep.Slices
import Derived.Deep.Fields
import Derived.ChangeSame
set_option linter.unusedSimpArgs false
/- Lemmas of this repo's own on the model's operations, for any program. -/
namespace Go.Proofs.YtmpcbkonelcceaaDoor
open Go.RowKit

theorem i64_of_wf {n : Int} (h : (Lit.int .i64 n).wf = true) : -9223372036854775808 ≤ n ∧ n ≤ 9223372036854775807 := by
  have h' : (decide (IntKind.i64.min ≤ n) && decide (n ≤ IntKind.i64.max)) = true := h
  simp only [Bool.and_eq_true, decide_eq_true_eq] at h'
  exact h'
theorem belowN {B : Nat} {a w : World} (h : Below B a w) (n : Nat) : Below B a (w.drewN n) := ⟨h.os, h.tape, h.output, h.size, h.block⟩
theorem ret_i {k : IntKind} {a b : Int} (h : a = b) : Ending.returned (.int k a) = .returned (.int k b) := by rw [h]
theorem ret_ii {k l : IntKind} {a b c d : Int} (h : a = b) (h2 : c = d) : Ending.returned (.tuple #[.int k a, .int l c]) = .returned (.tuple #[.int k b, .int l d]) := by rw [h, h2]
theorem ret_eq {a b : Value} (h : a = b) : Ending.returned a = .returned b := by rw [h]

/-- A slice value that holds these integers, in a block below B. -/
def IntsAt (k : IntKind) (w : World) (B : Nat) (A : Option Addr) (n : Nat) (zs : List Int) : Prop :=
  zs.length = n ∧ (0 < n → ∃ ad, A = some ad ∧ ad.block < B ∧ ∀ j, j < n → w.cell? (ad.add j) = some (.int k (zs.getD j 0)))
def Bytes (w : World) (B : Nat) (A : Option Addr) (n : Nat) (zs : List Int) : Prop := IntsAt .u8 w B A n zs ∧ ∀ z ∈ zs, 0 ≤ z ∧ z ≤ 255

theorem add_block (a : Addr) (n : Nat) : (a.add n).block = a.block := by unfold Addr.add; split <;> rfl
theorem IntsAt.keep {k : IntKind} {w w' : World} {B : Nat} {A : Option Addr} {n : Nat} {zs : List Int} (h : IntsAt k w B A n zs) (hk : ∀ p : Addr, p.block < B → w'.cell? p = w.cell? p) : IntsAt k w' B A n zs :=
  ⟨h.1, fun hn => by
    obtain ⟨ad, e, hb, hc⟩ := h.2 hn
    exact ⟨ad, e, hb, fun j hj => (hk _ (by rw [add_block]; exact hb)).trans (hc j hj)⟩⟩
theorem Bytes.keep {w w' : World} {B : Nat} {A : Option Addr} {n : Nat} {zs : List Int} (h : Bytes w B A n zs) (hk : ∀ p : Addr, p.block < B → w'.cell? p = w.cell? p) : Bytes w' B A n zs := ⟨h.1.keep hk, h.2⟩
theorem Bytes.below {w w' : World} {B : Nat} {A : Option Addr} {n : Nat} {zs : List Int} (h : Bytes w B A n zs) (hb : Below B w w') : Bytes w' B A n zs := h.keep fun _ hp => hb.cell hp

/-- 'string([]byte{c})' of a row of one byte that has just been made. -/
theorem run_string_of_new1 {P : Program} {src dst e : TypeId} (hs : P.underlying src = some (.slice e)) (he : P.underlying e = some (.int .u8)) (hd : P.underlying dst = some .string) (T : TypeId) (c : Int) (w : World) :
    (convert src dst (.slice (some ⟨w.heap.size, 0, none⟩) 1 1)).run P (w.alloc (.cells #[.int .u8 c] T)) = .ok (.string ⟨[UInt8.ofNat c.toNat].toArray⟩) (w.alloc (.cells #[.int .u8 c] T)) := by
  rw [run_convert_bytes_string _ src dst e _ _ _ hs he hd]
  rw [run_bytesToString _ _ 1 1 [c] ?_]
  · rfl
  · exact run_loadCells_list _ _ [Value.int .u8 c] (fun j v hv => by
      match j with
      | 0 => simp at hv; subst hv; go_simp
      | j + 1 => simp at hv)
end Go.Proofs.YtmpcbkonelcceaaDoor

/- Slices of numbers that a call has made: what they hold; append, make and stores on them. No program. -/
namespace Go.Proofs.YtmpcbkonelcceaaDoor
open Go.RowKit

theorem heap_set {w : World} {g : Nat} {cs : Array Value} {t : TypeId} (h : w.heap[g]? = some (.cells cs t (0, 0))) (i : Nat) (u : Value) :
    (w.setCell ⟨g, i, none⟩ u).heap[g]? = some (.cells (cs.setIfInBounds i u) t (0, 0)) := by
  simp [World.setCell, Array.getElem?_modify, h]
/-- Only block g, and what is new, has turned. -/
theorem only_drewN {a w : World} {row : Option Nat} (h : a.grownBy w row) (n : Nat) : a.grownBy (w.drewN n) row := ⟨h.os, h.tape, h.output, h.size, h.block⟩
theorem only_alloc {a w : World} {row : Option Nat} (h : a.grownBy w row) (o : Obj) : a.grownBy (w.alloc o) row :=
  ⟨h.os, h.tape, h.output, Nat.le_trans h.size (by simp), fun k hk hne => (Below.heap_alloc w o k (Nat.lt_of_lt_of_le hk h.size)).trans (h.block k hk hne)⟩
theorem only_trans {a b c : World} {g : Nat} (h : a.grownBy b (some g)) (k : b.grownBy c (some g)) : a.grownBy c (some g) :=
  ⟨k.os.trans h.os, k.tape.trans h.tape, k.output.trans h.output, Nat.le_trans h.size k.size, fun i hi hne => (k.block i (Nat.lt_of_lt_of_le hi h.size) hne).trans (h.block i hi hne)⟩
theorem below_of_only {a w : World} {g B : Nat} (h : a.grownBy w (some g)) (hB : B ≤ g) (hs : B ≤ a.heap.size) : Below B a w :=
  ⟨h.os, h.tape, h.output, h.size, fun k hk => h.block k (by omega) (fun e => by injection e with e; omega)⟩
theorem only_of_below {a w : World} (h : Below a.heap.size a w) (row : Option Nat) : a.grownBy w row := ⟨h.os, h.tape, h.output, h.size, fun i hi _ => h.block i hi⟩
theorem only_setCell {a w : World} {g : Nat} (h : a.grownBy w (some g)) (i : Nat) (u : Value) : a.grownBy (w.setCell ⟨g, i, none⟩ u) (some g) :=
  ⟨h.os, h.tape, h.output, by simpa [World.setCell] using h.size, fun k hk hne => (Below.heap_setCell w _ u k (fun e => hne (by rw [e]))).trans (h.block k hk hne)⟩

/-- v is a slice over a row of the call's own (a block from lo on) that holds these integers; or nil. -/
def Own (k : IntKind) (E : TypeId) (w : World) (lo : Nat) (v : Value) (zs : List Int) : Prop := w.ownsRow lo E 1 v zs.length (zs.map (Value.int k))
theorem own_nil (k : IntKind) (E : TypeId) (w : World) (lo : Nat) : Own k E w lo (.slice none 0 0) [] := World.ownsRow_nil _ _ _ _
theorem Own.shape {k : IntKind} {E : TypeId} {w : World} {lo : Nat} {v : Value} {zs : List Int} (h : Own k E w lo v zs) :
    (v = .slice none 0 0 ∧ zs = []) ∨ ∃ g cap, v = .slice (some ⟨g, 0, none⟩) zs.length cap ∧ lo ≤ g ∧ g < w.heap.size ∧ zs.length ≤ cap ∧ cap ≤ maxLen := by
  rcases h.2 with ⟨h1, h2⟩ | ⟨g, cap, cur, hv, hb, hg, hc, hm, _⟩
  · exact .inl ⟨h1, List.eq_nil_of_length_eq_zero h2⟩
  · exact .inr ⟨g, cap, hv, hb, lt_of_block hg, hc, hm⟩
theorem Own.sliced {k : IntKind} {E : TypeId} {w : World} {lo : Nat} {v : Value} {zs : List Int} (h : Own k E w lo v zs) : ∃ A c, v = .slice A zs.length c := by
  rcases h.shape with ⟨rfl, rfl⟩ | ⟨g, cap, rfl, _⟩
  · exact ⟨_, _, rfl⟩
  · exact ⟨_, _, rfl⟩
theorem Own.len {k : IntKind} {E : TypeId} {w : World} {lo : Nat} {A : Option Addr} {n c : Nat} {zs : List Int} (h : Own k E w lo (.slice A n c) zs) : n = zs.length := by
  obtain ⟨A', c', e⟩ := h.sliced
  injection e
theorem Own.block {k : IntKind} {E : TypeId} {w : World} {lo : Nat} {v : Value} {zs : List Int} (h : Own k E w lo v zs) : ∀ g, v.ownBlock = some g → lo ≤ g ∧ g < w.heap.size := h.lt
theorem Own.mono {k : IntKind} {E : TypeId} {w : World} {lo lo' : Nat} {v : Value} {zs : List Int} (h : Own k E w lo v zs) (hl : lo' ≤ lo) : Own k E w lo' v zs := by
  refine ⟨h.1, ?_⟩
  rcases h.2 with h2 | ⟨g, cap, cur, hv, hb, hg, r⟩
  · exact .inl h2
  · exact .inr ⟨g, cap, cur, hv, by omega, hg, r⟩
theorem Own.grown {k : IntKind} {E : TypeId} {w w' : World} {lo : Nat} {v : Value} {zs : List Int} {row : Option Nat} (h : Own k E w lo v zs) (hg : w.grownBy w' row) (hne : ∀ g, v.ownBlock = some g → row ≠ some g) : Own k E w' lo v zs :=
  World.ownsRow.kept h hg (by
    cases e : v.ownBlock with
    | none => exact .inl rfl
    | some g => exact .inr fun e' => hne g e e'.symm)
theorem Own.under {k : IntKind} {E : TypeId} {w w' : World} {lo B : Nat} {v : Value} {zs : List Int} (h : Own k E w lo v zs) (hb : Below B w w') (hB : ∀ g, v.ownBlock = some g → g < B) : Own k E w' lo v zs := by
  refine ⟨h.1, ?_⟩
  rcases h.2 with h2 | ⟨g, cap, cur, rfl, hl, hg, r⟩
  · exact .inl h2
  · exact .inr ⟨g, cap, cur, rfl, hl, (hb.block g (hB g rfl)).trans hg, r⟩
theorem Own.below {k : IntKind} {E : TypeId} {w w' : World} {lo : Nat} {v : Value} {zs : List Int} (h : Own k E w lo v zs) (hb : Below w.heap.size w w') : Own k E w' lo v zs := h.under hb fun g e => (h.block g e).2
theorem Own.alloc {k : IntKind} {E : TypeId} {w : World} {lo : Nat} {v : Value} {zs : List Int} (h : Own k E w lo v zs) (o : Obj) : Own k E (w.alloc o) lo v zs := World.ownsRow.alloc h o
theorem add_head (g j : Nat) : (⟨g, 0, none⟩ : Addr).add j = ⟨g, j, none⟩ := by unfold Addr.add; split <;> simp_all
theorem Own.cell {k : IntKind} {E : TypeId} {w : World} {lo : Nat} {g n c : Nat} {zs : List Int} (h : Own k E w lo (.slice (some ⟨g, 0, none⟩) n c) zs) (j : Nat) (hj : j < zs.length) : w.cell? ⟨g, j, none⟩ = some (.int k (zs.getD j 0)) := by
  have hn := h.len
  subst hn
  have h' : w.ownsRow lo E 1 (.slice (some ⟨g, 0, none⟩) zs.length c) zs.length (zs.map (Value.int k)) := h
  rw [h'.cellAt j (by omega)]
  simp [List.getD_eq_getElem?_getD, List.getElem?_eq_getElem hj]
theorem Own.free {k : IntKind} {E : TypeId} {w : World} {lo : Nat} {g n c : Nat} {zs : List Int} (h : Own k E w lo (.slice (some ⟨g, 0, none⟩) n c) zs) (j : Nat) : w.frozen? ⟨g, j, none⟩ = false := by
  have hn := h.len
  subst hn
  have h' : w.ownsRow lo E 1 (.slice (some ⟨g, 0, none⟩) zs.length c) zs.length (zs.map (Value.int k)) := h
  exact h'.frozenAt j
theorem Own.ints {k : IntKind} {E : TypeId} {w : World} {lo : Nat} {A : Option Addr} {n c : Nat} {zs : List Int} (h : Own k E w lo (.slice A n c) zs) : IntsAt k w w.heap.size A n zs := by
  have hn := h.len
  refine ⟨hn.symm, fun h0 => ?_⟩
  rcases h.shape with ⟨e, rfl⟩ | ⟨g, cap, e, hb, hlt, _⟩
  · simp at hn; omega
  · injection e with e1 e2 e3
    subst e1
    exact ⟨_, rfl, hlt, fun j hj => by rw [add_head]; exact h.cell j (by omega)⟩
theorem Own.stored {k : IntKind} {E : TypeId} {w : World} {lo : Nat} {g n c : Nat} {zs : List Int} (h : Own k E w lo (.slice (some ⟨g, 0, none⟩) n c) zs) (j : Nat) (x : Int) :
    Own k E (w.setCell ⟨g, j, none⟩ (.int k x)) lo (.slice (some ⟨g, 0, none⟩) n c) (zs.set j x) := by
  have hn := h.len
  subst hn
  have h' : w.ownsRow lo E 1 (.slice (some ⟨g, 0, none⟩) zs.length c) zs.length (zs.map (Value.int k)) := h
  have h2 := (h'.stored j (.int k x)).1
  unfold Own
  rw [List.length_set, List.map_set]
  exact h2
theorem own_lit {k : IntKind} {E : TypeId} (w : World) {lo : Nat} (zs : List Int) (n : Nat) (hb : lo ≤ w.heap.size) (hm : n ≤ maxLen) (hn : zs.length = n) :
    Own k E (w.alloc (.cells (zs.map (Value.int k)).toArray E)) lo (.slice (some ⟨w.heap.size, 0, none⟩) n n) zs := by
  subst hn
  have h := World.ownsRow_lit (base := lo) (e := E) (size := 1) w (zs.map (Value.int k)).toArray zs.length hb hm (by simp)
  unfold Own
  simpa using h
theorem made_ints (k : IntKind) (n : Nat) : (madeCells (Value.int k 0).cells (n * 1)).toList = (List.replicate n 0).map (Value.int k) := by
  simp only [madeCells, Value.cells]
  apply List.ext_getElem?
  intro i
  simp only [Array.toList_map, List.getElem?_map, Nat.mul_one]
  by_cases h : i < n
  · simp [h, Nat.mod_one]
  · simp [h]
theorem getD_set_self (zs : List Int) (j : Nat) (x : Int) (h : j < zs.length) : (zs.set j x).getD j 0 = x := by
  simp [List.getD_eq_getElem?_getD, h]

/-- The second type of an append is looked at for a number alone. -/
theorem run_append_types {P : Program} {t tx e ex : TypeId} (ht : P.underlying t = some (.slice e)) (hx : P.underlying tx = some (.slice ex)) (ty : TypeId) (A : Option Addr) (n c : Nat) (x : Value) (w : World) :
    (Builtin.append_ #[t, tx] ty #[.slice A n c, x]).run P w = (Builtin.append_ #[t, t] ty #[.slice A n c, x]).run P w := by
  simp [Builtin.append_, run_underlying ht, run_underlying hx]
theorem ints_news {k : IntKind} {w : World} {B : Nat} {ad : Addr} {m : Nat} {zs : List Int} (h : IntsAt k w B (some ad) m zs) : ∀ j u, (zs.map (Value.int k))[j]? = some u → w.cell? (ad.add j) = some u := by
  intro j u hu
  obtain ⟨z, hz, rfl⟩ := Option.map_eq_some_iff.1 ((List.getElem?_map).symm.trans hu)
  obtain ⟨hj, hz'⟩ := List.getElem?_eq_some_iff.1 hz
  have hm := h.1
  obtain ⟨ad', e, _, hc⟩ := h.2 (by omega)
  injection e with e
  subst e
  rw [hc j (by omega), List.getD_eq_getElem?_getD, hz]
  rfl
theorem ints_one (k : IntKind) (zs : List Int) : ∀ u ∈ zs.map (Value.int k), u.oneCell' = true := by
  intro u hu
  obtain ⟨z, _, rfl⟩ := List.mem_map.1 hu
  rfl

/-- A guarded operation that is wanted is carried out as one without a guard. -/
theorem wpList_want {P : Program} {w : World} {ops : Array Oper} {rest : List Oper} {o : Oper} {a : Act} {Q : Exit → Act → World → Prop} (hw : Region.wanted o (yielded ops a.tmps) = true)
    (h : wpList P ops Q ({ o with guard := none } :: rest) a w) : wpList P ops Q (o :: rest) a w := by
  unfold wpList at h ⊢
  rw [if_pos hw]
  rw [if_pos (by simp [Region.wanted])] at h
  exact h
/-- 'append(v, x...)', v of the call's own or nil, x a slice of the same numbers, whatever it is. -/
theorem wpList_app {P : Program} {w : World} {ops : Array Oper} {rest : List Oper} {o : Oper} {a : Act} {Q : Exit → Act → World → Prop} (hgd : o.guard = none) (s x : Operand) (t tx : TypeId)
    (ho : o.op = .call { callee := .builtin .append, args := #[s, x], argTypes := #[t, tx] })
    (k : IntKind) (E ex : TypeId) (bytes : Nat) (ht : P.underlying t = some (.slice E)) (htx : P.underlying tx = some (.slice ex)) (hi : (P.info? E).map (fun i => (i.zero, i.size, i.bytes)) = some (some (.int k 0), 1, bytes))
    (lo : Nat) (v : Value) (xs : List Int) (hs : a.eval s = v) (hown : Own k E w lo v xs)
    (A : Option Addr) (m c B : Nat) (zs : List Int) (hx : a.eval x = .slice A m c) (hsrc : IntsAt k w B A m zs) (hnil : A = none → m = 0 ∧ c = 0) (hb : bytes ≤ 8)
    (hbytes : xs.length + m ≤ 4398046511104) (hlo : lo ≤ w.heap.size)
    (h : ∀ v' w', Own k E w' lo v' (xs ++ zs) → w.grownBy w' v.ownBlock → (v'.ownBlock = v.ownBlock ∨ v'.ownBlock = some w.heap.size) → wpList P ops Q rest (a.put o.dst v') w') :
    wpList P ops Q (o :: rest) a w := by
  refine wpList_plain hgd fun K hK => ?_
  obtain ⟨i, hi1, hz, hsz, hby⟩ := info_parts hi
  have hzs := hsrc.1
  obtain ⟨Av, cv, hv⟩ := hown.sliced
  cases A with
  | none =>
    obtain ⟨rfl, rfl⟩ := hnil rfl
    have hz0 : zs = [] := List.eq_nil_of_length_eq_zero hzs
    subst hz0
    have hrun := run_append_owned_none (P := P) (w := w) lo t o.type E i 1 ht hi1 v xs.length _ hown
    have hrun2 := (run_append_types ht htx o.type Av xs.length cv (.slice none 0 0) w).trans (hv ▸ hrun)
    unfold Oper.wp
    simp [execOp, ho, resolve, invoke, builtin, hs, hx, hv, hrun2, Result.andThen]
    exact hK _ _ (hv ▸ h v w (by rw [List.append_nil]; exact hown) (World.grownBy.refl _ _) (.inl rfl))
  | some ad =>
    obtain ⟨v', w', hr, h2, h3, h4, h5⟩ := run_append_own_at (P := P) w lo t o.type E i (.int k 0) 1 bytes ht hi1 hz hsz hby rfl (by omega) v xs.length _ hown ad m c (zs.map (Value.int k)) (by simp [hzs]) (ints_news hsrc) (ints_one k zs)
      (by unfold maxLen; omega) (by have : (xs.length + m) * bytes ≤ (xs.length + m) * 8 := Nat.mul_le_mul_left _ hb; omega) hlo
    have hrun2 := (run_append_types ht htx o.type Av xs.length cv (.slice (some ad) m c) w).trans (hv ▸ hr)
    unfold Oper.wp execOp
    simp only [ho, resolve, invoke, builtin, Sem.run_bind, Sem.run_pure, Result.andThen_ok, List.map_toArray, List.map_cons, List.map_nil, hs, hx, hv, hrun2]
    refine hK _ _ (h v' w' ?_ h3 h5)
    unfold Own
    rw [List.length_append, List.map_append, hzs]
    exact h2
/-- 'append(v, x)', one number: it lies in a block of its own, the newest. -/
theorem wpList_app1 {P : Program} {w : World} {ops : Array Oper} {rest : List Oper} {o : Oper} {a : Act} {Q : Exit → Act → World → Prop} (hgd : o.guard = none) (s x : Operand) (t : TypeId)
    (ho : o.op = .call { callee := .builtin .append, args := #[s, x], argTypes := #[t, t] })
    (k : IntKind) (E : TypeId) (bytes : Nat) (ht : P.underlying t = some (.slice E)) (hi : (P.info? E).map (fun i => (i.zero, i.size, i.bytes)) = some (some (.int k 0), 1, bytes))
    (lo : Nat) (v : Value) (xs : List Int) (hs : a.eval s = v) (hown : Own k E w lo v xs) (hb : bytes ≤ 8) (hbytes : xs.length < 4398046511104)
    (z : Int) (fr : Nat × Nat) (T : TypeId) (H : Nat) (hlo : lo ≤ H) (hx : a.eval x = .slice (some ⟨H, 0, none⟩) 1 1) (hH : (w.alloc (.cells #[.int k z] T fr)).heap.size = H + 1)
    (h : ∀ v' w', Own k E w' lo v' (xs ++ [z]) → (w.alloc (.cells #[.int k z] T fr)).grownBy w' v.ownBlock → (v'.ownBlock = v.ownBlock ∨ v'.ownBlock = some (H + 1)) → wpList P ops Q rest (a.put o.dst v') w') :
    wpList P ops Q (o :: rest) a (w.alloc (.cells #[.int k z] T fr)) := by
  have hH' : w.heap.size = H := by simpa using hH
  subst hH'
  have hc : (w.alloc (.cells #[.int k z] T fr)).cell? ⟨w.heap.size, 0, none⟩ = some (.int k z) := by
    rw [cell_of_row _ _ 0 #[.int k z] T fr (heap_alloc_new w _)]; rfl
  refine wpList_app hgd s x t t ho k E E bytes ht ht hi lo v xs hs (hown.alloc _) (some ⟨w.heap.size, 0, none⟩) 1 1 (w.heap.size + 1) [z] hx ⟨rfl, fun _ => ⟨_, rfl, by simp, fun j hj => ?_⟩⟩ (by simp) hb (by omega) (by simp; omega) (fun v' w' h1 h2 h3 => h v' w' h1 h2 (by simpa using h3))
  obtain rfl : j = 0 := by omega
  rw [add_head]
  exact hc
/-- 'make([]T, n)'. -/
theorem wpList_mk {P : Program} {w : World} {ops : Array Oper} {rest : List Oper} {o : Oper} {a : Act} {Q : Exit → Act → World → Prop}
    (hg : o.guard = none) (l c : Operand) (t : TypeId) (hop : o.op = Op.makeSlice t l c)
    (k : IntKind) (E : TypeId) (bytes : Nat) (ht : P.underlying t = some (.slice E)) (hi : (P.info? E).map (fun i => (i.zero, i.size, i.bytes)) = some (some (.int k 0), 1, bytes)) (hb : bytes ≤ 8)
    (L C : Int) (n : Nat) (hl : a.eval l = .int .i64 L) (hc : a.eval c = .int .i64 C) (hL : L = (n : Int)) (hC : C = (n : Int)) (hn : n ≤ 4398046511104)
    (hK : ∀ w', Own k E w' w.heap.size (.slice (some ⟨w.heap.size, 0, none⟩) n n) (List.replicate n 0) → w.grownBy w' none → wpList P ops Q rest (a.put o.dst (.slice (some ⟨w.heap.size, 0, none⟩) n n)) w') :
    wpList P ops Q (o :: rest) a w := by
  obtain ⟨i, hi1, hz, hsz, hby⟩ := info_parts hi
  refine wpList_make_full w hg l c t hop w.heap.size E i (.int k 0) 1 ht hi1 hz hsz .i64 .i64 L C n hl hc hL hC (by rw [hby]; have : bytes * n ≤ 8 * n := Nat.mul_le_mul_right _ hb; omega) (by unfold maxLen; omega) (Nat.le_refl _) fun w' h1 h2 => hK w' ?_ h2
  unfold Own
  rw [made_ints] at h1
  simpa using h1
/-- 'make([]T, 0, n)'. -/
theorem wpList_mk0 {P : Program} {w : World} {ops : Array Oper} {rest : List Oper} {o : Oper} {a : Act} {Q : Exit → Act → World → Prop}
    (hg : o.guard = none) (l c : Operand) (t : TypeId) (hop : o.op = Op.makeSlice t l c)
    (k : IntKind) (E : TypeId) (bytes : Nat) (ht : P.underlying t = some (.slice E)) (hi : (P.info? E).map (fun i => (i.zero, i.size, i.bytes)) = some (some (.int k 0), 1, bytes)) (hb : bytes ≤ 8)
    (C : Int) (n : Nat) (hl : a.eval l = .int .i64 0) (hc : a.eval c = .int .i64 C) (hC : C = (n : Int)) (hn : n ≤ 4398046511104)
    (hK : ∀ w', Own k E w' w.heap.size (.slice (some ⟨w.heap.size, 0, none⟩) 0 n) [] → w.grownBy w' none → wpList P ops Q rest (a.put o.dst (.slice (some ⟨w.heap.size, 0, none⟩) 0 n)) w') :
    wpList P ops Q (o :: rest) a w := by
  obtain ⟨i, hi1, hz, hsz, hby⟩ := info_parts hi
  exact wpList_make_own w hg l c t hop w.heap.size E i (.int k 0) 1 ht hi1 hz hsz .i64 .i64 C n hl hc hC (by rw [hby]; have : bytes * n ≤ 8 * n := Nat.mul_le_mul_right _ hb; omega) (by unfold maxLen; omega) (Nat.le_refl _) fun w' h1 h2 => hK w' h1 h2
theorem Own.push {k : IntKind} {E : TypeId} {a w0 w w' : World} {B lo : Nat} {v : Value} {zs : List Int} (h : Own k E w0 lo v zs) (hl : B ≤ lo) (hb : Below B a w) (hB : B ≤ w.heap.size) (hg : w.grownBy w' v.ownBlock) : Below B a w' :=
  hb.grown hg hB fun g e => Nat.le_trans hl (h.block g e).1
theorem own_bare (k : IntKind) (E : TypeId) (w : World) : Own k E (w.alloc (.cells #[] E)) w.heap.size (.slice (some ⟨w.heap.size, 0, none⟩) 0 0) [] := own_lit w [] 0 (Nat.le_refl _) (by decide) rfl
theorem eql_slice_nil {P : Program} {t e : TypeId} (ht : P.underlying t = some (.slice e)) (A : Option Addr) (n c : Nat) (w : World) :
    (binOp .eql t (.slice A n c) (.slice none 0 0)).run P w = .ok (.bool A.isNone) w := by
  have h : ∀ d : Nat, (Op.equalIn (d + 1) t (.slice A n c) (.slice none 0 0)).run P w = .ok A.isNone w := fun d => by
    cases A <;> simp [Op.equalIn, run_underlying ht]
  simp only [binOp]
  simp [Op.equal, Op.maxDepth, h 9999]
theorem below_undrew {B : Nat} {w w' : World} (h : Below B w.drew w') : Below B w w' := ⟨h.os, h.tape, h.output, h.size, h.block⟩
theorem below_grown {w w' : World} (h : w.grownBy w' none) : Below w.heap.size w w' := ⟨h.os, h.tape, h.output, h.size, fun i hi => h.block i hi (by simp)⟩
end Go.Proofs.YtmpcbkonelcceaaDoor

/- Rows of cells, of elements of whatever size: what they hold; append, make and stores on a row of the call's own. No program. -/
namespace Go.Proofs.YtmpcbkonelcceaaDoor
open Go.RowKit

theorem add_add (a : Addr) (m n : Nat) : (a.add m).add n = a.add (m + n) := by
  unfold Addr.add
  by_cases h : m = 0
  · subst h; simp
  · by_cases h2 : n = 0
    · subst h2; simp
    · simp [h, h2, Nat.add_assoc]
/-- These cells, one behind the other, in a block below B. -/
def CellsAt (w : World) (B : Nat) (A : Option Addr) (m : Nat) (vs : List Value) : Prop :=
  vs.length = m ∧ (0 < m → ∃ ad, A = some ad ∧ ad.block < B ∧ ∀ (j : Nat) v, vs[j]? = some v → w.cell? (ad.add j) = some v)
theorem CellsAt.keep {w w' : World} {B : Nat} {A : Option Addr} {m : Nat} {vs : List Value} (h : CellsAt w B A m vs) (hk : ∀ p : Addr, p.block < B → w'.cell? p = w.cell? p) : CellsAt w' B A m vs :=
  ⟨h.1, fun hn => by
    obtain ⟨ad, e, hb, hc⟩ := h.2 hn
    exact ⟨ad, e, hb, fun j v hj => (hk _ (by rw [add_block]; exact hb)).trans (hc j v hj)⟩⟩
theorem CellsAt.below {w w' : World} {B : Nat} {A : Option Addr} {m : Nat} {vs : List Value} (h : CellsAt w B A m vs) (hb : Below B w w') : CellsAt w' B A m vs := h.keep fun _ hp => hb.cell hp
theorem CellsAt.up {w : World} {B B' : Nat} {A : Option Addr} {m : Nat} {vs : List Value} (h : CellsAt w B A m vs) (hB : B ≤ B') : CellsAt w B' A m vs :=
  ⟨h.1, fun hn => by obtain ⟨ad, e, hb, hc⟩ := h.2 hn; exact ⟨ad, e, by omega, hc⟩⟩

section
variable {E : TypeId} {s : Nat} {w w' w0 : World} {lo lo' n : Nat} {v : Value} {vs : List Value}
theorem ownr_nil (E : TypeId) (s : Nat) (w : World) (lo : Nat) : w.ownsRow lo E s (.slice none 0 0) 0 [] := World.ownsRow_nil _ _ _ _
theorem ownr_shape (h : w.ownsRow lo E s v n vs) :
    (v = .slice none 0 0 ∧ n = 0) ∨ ∃ g cap, v = .slice (some ⟨g, 0, none⟩) n cap ∧ lo ≤ g ∧ g < w.heap.size ∧ n ≤ cap ∧ cap ≤ maxLen := by
  rcases h.2 with h1 | ⟨g, cap, cur, hv, hb, hg, hc, hm, _⟩
  · exact .inl h1
  · exact .inr ⟨g, cap, hv, hb, lt_of_block hg, hc, hm⟩
theorem ownr_sliced (h : w.ownsRow lo E s v n vs) : ∃ A c, v = .slice A n c := by
  rcases ownr_shape h with ⟨rfl, rfl⟩ | ⟨g, cap, rfl, _⟩
  · exact ⟨_, _, rfl⟩
  · exact ⟨_, _, rfl⟩
theorem ownr_len {A : Option Addr} {m c : Nat} (h : w.ownsRow lo E s (.slice A m c) n vs) : m = n := by
  obtain ⟨A', c', e⟩ := ownr_sliced h
  injection e
theorem ownr_block (h : w.ownsRow lo E s v n vs) : ∀ g, v.ownBlock = some g → lo ≤ g ∧ g < w.heap.size := World.ownsRow.lt h
theorem ownr_mono (h : w.ownsRow lo E s v n vs) (hl : lo' ≤ lo) : w.ownsRow lo' E s v n vs := by
  refine ⟨h.1, ?_⟩
  rcases h.2 with h2 | ⟨g, cap, cur, hv, hb, hg, r⟩
  · exact .inl h2
  · exact .inr ⟨g, cap, cur, hv, by omega, hg, r⟩
theorem ownr_grown {row : Option Nat} (h : w.ownsRow lo E s v n vs) (hg : w.grownBy w' row) (hne : ∀ g, v.ownBlock = some g → row ≠ some g) : w'.ownsRow lo E s v n vs :=
  World.ownsRow.kept h hg (by
    cases e : v.ownBlock with
    | none => exact .inl rfl
    | some g => exact .inr fun e' => hne g e e'.symm)
theorem ownr_under {B : Nat} (h : w.ownsRow lo E s v n vs) (hb : Below B w w') (hB : ∀ g, v.ownBlock = some g → g < B) : w'.ownsRow lo E s v n vs := by
  refine ⟨h.1, ?_⟩
  rcases h.2 with h2 | ⟨g, cap, cur, rfl, hl, hg, r⟩
  · exact .inl h2
  · exact .inr ⟨g, cap, cur, rfl, hl, (hb.block g (hB g rfl)).trans hg, r⟩
theorem ownr_below (h : w.ownsRow lo E s v n vs) (hb : Below w.heap.size w w') : w'.ownsRow lo E s v n vs := ownr_under h hb fun g e => (ownr_block h g e).2
theorem ownr_push {B : Nat} {a : World} (h : w0.ownsRow lo E s v n vs) (hl : B ≤ lo) (hb : Below B a w) (hB : B ≤ w.heap.size) (hg : w.grownBy w' v.ownBlock) : Below B a w' :=
  hb.grown hg hB fun g e => Nat.le_trans hl (ownr_block h g e).1
theorem ownr_cells {A : Option Addr} {m c : Nat} (h : w.ownsRow lo E s (.slice A m c) n vs) : CellsAt w w.heap.size A (m * s) vs := by
  have hm := ownr_len h
  subst hm
  refine ⟨h.1, fun h0 => ?_⟩
  rcases ownr_shape h with ⟨e, hn⟩ | ⟨g, cap, e, hb, hlt, _⟩
  · subst hn; simp at h0
  · injection e with e1 e2 e3
    subst e1; subst e3
    refine ⟨_, rfl, hlt, fun j u hj => ?_⟩
    rw [add_head, World.ownsRow.cellAt h j (by have := (List.getElem?_eq_some_iff.1 hj).1; rw [h.1] at this; exact this), hj]
theorem ownr_some {g c : Nat} (h : w.ownsRow lo E s (.slice (some ⟨g, 0, none⟩) n c) n vs) {j : Nat} (hj : j < n * s) : ∃ x, w.cell? ⟨g, j, none⟩ = some x := by
  have h1 := World.ownsRow.cellAt h j hj
  rw [List.getElem?_eq_getElem (by rw [h.1]; exact hj)] at h1
  exact ⟨_, h1⟩
theorem ownr_nilcap {A : Option Addr} {m c : Nat} (h : w.ownsRow lo E s (.slice A m c) n vs) : A = none → m = 0 ∧ c = 0 := by
  rintro rfl
  rcases ownr_shape h with ⟨e, _⟩ | ⟨g, cap, e, _⟩
  · injection e with e1 e2 e3; exact ⟨e2, e3⟩
  · injection e with e1; cases e1
theorem ownr_cap {A : Option Addr} {m c : Nat} (h : w.ownsRow lo E s (.slice A m c) n vs) : m ≤ c ∧ c ≤ maxLen := by
  rcases ownr_shape h with ⟨e, _⟩ | ⟨g, cap, e, _, _, h1, h2⟩
  · injection e with e1 e2 e3; subst e3; subst e2; exact ⟨Nat.le_refl _, by decide⟩
  · injection e with e1 e2 e3; subst e3; subst e2; exact ⟨h1, h2⟩
end

section
variable {P : Program} {w : World} {ops : Array Oper} {rest : List Oper} {o : Oper} {a : Act} {Q : Exit → Act → World → Prop}
/-- 'append(v, x...)', v of the call's own or nil, x a slice of the same elements, whatever it is. -/
theorem wpList_appR (hgd : o.guard = none) (s x : Operand) (t tx : TypeId)
    (ho : o.op = .call { callee := .builtin .append, args := #[s, x], argTypes := #[t, tx] })
    (E ex : TypeId) (z0 : Value) (sz bytes : Nat) (ht : P.underlying t = some (.slice E)) (htx : P.underlying tx = some (.slice ex)) (hi : (P.info? E).map (fun i => (i.zero, i.size, i.bytes)) = some (some z0, sz, bytes)) (hz : z0.cells.size = sz) (hsz : 0 < sz) (hb : bytes ≤ 256)
    (lo : Nat) (v : Value) (n : Nat) (xs : List Value) (hs : a.eval s = v) (hown : w.ownsRow lo E sz v n xs)
    (A : Option Addr) (m c B : Nat) (zs : List Value) (hx : a.eval x = .slice A m c) (hsrc : CellsAt w B A (m * sz) zs) (h1 : ∀ u ∈ zs, u.oneCell' = true) (hnil : A = none → m = 0 ∧ c = 0)
    (hbytes : n + m ≤ 274877906944) (hlo : lo ≤ w.heap.size)
    (h : ∀ v' w', w'.ownsRow lo E sz v' (n + m) (xs ++ zs) → w.grownBy w' v.ownBlock → (v'.ownBlock = v.ownBlock ∨ v'.ownBlock = some w.heap.size) → wpList P ops Q rest (a.put o.dst v') w') :
    wpList P ops Q (o :: rest) a w := by
  refine wpList_plain hgd fun K hK => ?_
  obtain ⟨i, hi1, hz1, hsz1, hby⟩ := info_parts hi
  have hzs := hsrc.1
  obtain ⟨Av, cv, hv⟩ := ownr_sliced hown
  cases A with
  | none =>
    obtain ⟨rfl, rfl⟩ := hnil rfl
    have hz0 : zs = [] := List.eq_nil_of_length_eq_zero (by rw [hzs]; simp)
    subst hz0
    have hrun := run_append_owned_none (P := P) (w := w) lo t o.type E i sz ht hi1 v n _ hown
    have hrun2 := (run_append_types ht htx o.type Av n cv (.slice none 0 0) w).trans (hv ▸ hrun)
    unfold Oper.wp
    simp [execOp, ho, resolve, invoke, builtin, hs, hx, hv, hrun2, Result.andThen]
    exact hK _ _ (hv ▸ h v w (by rw [List.append_nil]; exact hown) (World.grownBy.refl _ _) (.inl rfl))
  | some ad =>
    have hnews : ∀ (j : Nat) u, zs[j]? = some u → w.cell? (ad.add j) = some u := by
      intro j u hj
      have hlt := (List.getElem?_eq_some_iff.1 hj).1
      obtain ⟨ad', e, _, hc⟩ := hsrc.2 (by rw [← hzs]; omega)
      injection e with e
      subst e
      exact hc j u hj
    obtain ⟨v', w', hr, h2, h3, h4, h5⟩ := run_append_own_at (P := P) w lo t o.type E i z0 sz bytes ht hi1 hz1 hsz1 hby hz hsz v n _ hown ad m c zs hzs hnews h1
      (by unfold maxLen; omega) (by have : (n + m) * bytes ≤ (n + m) * 256 := Nat.mul_le_mul_left _ hb; omega) hlo
    have hrun2 := (run_append_types ht htx o.type Av n cv (.slice (some ad) m c) w).trans (hv ▸ hr)
    unfold Oper.wp execOp
    simp only [ho, resolve, invoke, builtin, Sem.run_bind, Sem.run_pure, Result.andThen_ok, List.map_toArray, List.map_cons, List.map_nil, hs, hx, hv, hrun2]
    exact hK _ _ (h v' w' h2 h3 h5)
theorem cells_new (w : World) (cs : List Value) (T : TypeId) (fr : Nat × Nat) (m : Nat) (hm : cs.length = m) : CellsAt (w.alloc (.cells cs.toArray T fr)) (w.heap.size + 1) (some ⟨w.heap.size, 0, none⟩) m cs :=
  ⟨hm, fun _ => ⟨_, rfl, by simp, fun j u hj => by rw [add_head, cell_of_row _ _ j cs.toArray T fr (heap_alloc_new w _)]; simpa using hj⟩⟩
/-- 'append(v, x)', one element: it lies in a block of its own, the newest. -/
theorem wpList_appR1 (hgd : o.guard = none) (s x : Operand) (t : TypeId)
    (ho : o.op = .call { callee := .builtin .append, args := #[s, x], argTypes := #[t, t] })
    (E : TypeId) (z0 : Value) (sz bytes : Nat) (ht : P.underlying t = some (.slice E)) (hi : (P.info? E).map (fun i => (i.zero, i.size, i.bytes)) = some (some z0, sz, bytes)) (hz : z0.cells.size = sz) (hsz : 0 < sz) (hb : bytes ≤ 256)
    (lo : Nat) (v : Value) (n : Nat) (xs : List Value) (hs : a.eval s = v) (hown : w.ownsRow lo E sz v n xs) (hbytes : n < 274877906944)
    (cs : List Value) (hcs : cs.length = sz) (h1 : ∀ u ∈ cs, u.oneCell' = true) (fr : Nat × Nat) (T : TypeId) (H : Nat) (hlo : lo ≤ H) (hx : a.eval x = .slice (some ⟨H, 0, none⟩) 1 1) (hH : (w.alloc (.cells cs.toArray T fr)).heap.size = H + 1)
    (h : ∀ v' w', w'.ownsRow lo E sz v' (n + 1) (xs ++ cs) → (w.alloc (.cells cs.toArray T fr)).grownBy w' v.ownBlock → (v'.ownBlock = v.ownBlock ∨ v'.ownBlock = some (H + 1)) → wpList P ops Q rest (a.put o.dst v') w') :
    wpList P ops Q (o :: rest) a (w.alloc (.cells cs.toArray T fr)) := by
  have hH' : w.heap.size = H := by simpa using hH
  subst hH'
  refine wpList_appR hgd s x t t ho E E z0 sz bytes ht ht hi hz hsz hb lo v n xs hs (World.ownsRow.alloc hown _) (some ⟨w.heap.size, 0, none⟩) 1 1 (w.heap.size + 1) cs hx (cells_new w cs T fr _ (by omega)) h1 (by simp) (by omega) (by simp; omega) (fun v' w' h1 h2 h3 => h v' w' h1 h2 (by simpa using h3))
/-- 'make([]T, n)'. -/
theorem wpList_mkR (hg : o.guard = none) (l c : Operand) (t : TypeId) (hop : o.op = Op.makeSlice t l c)
    (E : TypeId) (z0 : Value) (sz bytes : Nat) (ht : P.underlying t = some (.slice E)) (hi : (P.info? E).map (fun i => (i.zero, i.size, i.bytes)) = some (some z0, sz, bytes)) (hb : bytes ≤ 256)
    (L C : Int) (n : Nat) (hl : a.eval l = .int .i64 L) (hc : a.eval c = .int .i64 C) (hL : L = (n : Int)) (hC : C = (n : Int)) (hn : n ≤ 274877906944)
    (hK : ∀ w', w'.ownsRow w.heap.size E sz (.slice (some ⟨w.heap.size, 0, none⟩) n n) n (madeCells z0.cells (n * sz)).toList → w.grownBy w' none → wpList P ops Q rest (a.put o.dst (.slice (some ⟨w.heap.size, 0, none⟩) n n)) w') :
    wpList P ops Q (o :: rest) a w := by
  obtain ⟨i, hi1, hz, hsz, hby⟩ := info_parts hi
  exact wpList_make_full w hg l c t hop w.heap.size E i z0 sz ht hi1 hz hsz .i64 .i64 L C n hl hc hL hC (by rw [hby]; have : bytes * n ≤ 256 * n := Nat.mul_le_mul_right _ hb; omega) (by unfold maxLen; omega) (Nat.le_refl _) fun w' h1 h2 => hK w' h1 h2
/-- 'append(v, x)', one element, at a step of a region that draws its order. -/
theorem step_appR1 {K : Act → World → Prop} {F : Prop} (hgd : o.guard = none) (s x : Operand) (t : TypeId)
    (ho : o.op = .call { callee := .builtin .append, args := #[s, x], argTypes := #[t, t] })
    (E : TypeId) (z0 : Value) (sz bytes : Nat) (ht : P.underlying t = some (.slice E)) (hi : (P.info? E).map (fun i => (i.zero, i.size, i.bytes)) = some (some z0, sz, bytes)) (hz : z0.cells.size = sz) (hsz : 0 < sz) (hb : bytes ≤ 256)
    (lo : Nat) (v : Value) (n : Nat) (xs : List Value) (hs : a.eval s = v) (hown : w.ownsRow lo E sz v n xs) (hbytes : n < 274877906944)
    (cs : List Value) (hcs : cs.length = sz) (h1 : ∀ u ∈ cs, u.oneCell' = true) (H : Nat) (hlo : lo ≤ w.heap.size) (hx : a.eval x = .slice (some ⟨H, 0, none⟩) 1 1) (hc : ∀ (j : Nat) u, cs[j]? = some u → w.cell? ⟨H, j, none⟩ = some u)
    (h : ∀ v' w', w'.ownsRow lo E sz v' (n + 1) (xs ++ cs) → w.grownBy w' v.ownBlock → K (a.put o.dst v') w') :
    if Region.wanted o (yielded ops a.tmps) = true then Oper.wp P o a w K Q else F := by
  obtain ⟨i, hi1, hz1, hsz1, hby⟩ := info_parts hi
  refine step_append_lies w hgd s x t ho lo E i z0 sz bytes ht hi1 hz1 hsz1 hby hz hsz v n _ hs hown ⟨H, 0, none⟩ 1 1 cs hx (by omega) (fun j u hu => by rw [add_head]; exact hc j u hu) h1 (by omega) (by unfold maxLen; omega)
    (by have : (n + 1) * bytes ≤ (n + 1) * 256 := Nat.mul_le_mul_left _ hb; omega) hlo _ rfl ?_
  intro g cap w' h1 h2 _ _
  exact h _ w' h1 h2
end

theorem results_cell {fn : Func} {p : Tmp} {ty : TypeId} (h : fn.results = #[.cell p ty]) (tmps : Array Value) (P : Program) (w : World) :
    (results fn tmps).run P w = ((asAddr (tmps.getD p undef)).run P w).andThen fun a w₁ => (loadVar ty a).run P w₁ := by
  simp only [results, h]
  simp [Sem.run_bind, Result.andThen]
theorem set_at {pre rest : List Value} {z a : Value} {m : Nat} (h : pre.length = m) : (pre ++ z :: rest).set m a = pre ++ a :: rest := by
  subst h
  rw [List.set_append_right _ _ (Nat.le_refl _), Nat.sub_self, List.set_cons_zero]
theorem set4 {pre rest : List Value} {z0 z1 z2 z3 a b c d : Value} {m : Nat} (h : pre.length = m) : ((((pre ++ z0 :: z1 :: z2 :: z3 :: rest).set m a).set (m + 1) b).set (m + 2) c).set (m + 3) d = pre ++ a :: b :: c :: d :: rest := by
  rw [set_at h]
  have e1 : pre ++ a :: z1 :: z2 :: z3 :: rest = (pre ++ [a]) ++ z1 :: z2 :: z3 :: rest := by simp
  rw [e1, set_at (by simp [h])]
  have e2 : (pre ++ [a]) ++ b :: z2 :: z3 :: rest = (pre ++ [a, b]) ++ z2 :: z3 :: rest := by simp
  rw [e2, set_at (by simp [h])]
  have e3 : (pre ++ [a, b]) ++ c :: z3 :: rest = (pre ++ [a, b, c]) ++ z3 :: rest := by simp
  rw [e3, set_at (by simp [h])]
  simp
theorem drop4 {zs : List Value} {m : Nat} (h : m + 4 ≤ zs.length) : ∃ z0 z1 z2 z3, zs.drop m = z0 :: z1 :: z2 :: z3 :: zs.drop (m + 4) :=
  ⟨zs[m], zs[m + 1], zs[m + 2], zs[m + 3], by
    rw [List.drop_eq_getElem_cons (by omega), List.drop_eq_getElem_cons (by omega), List.drop_eq_getElem_cons (by omega), List.drop_eq_getElem_cons (by omega)]⟩
/-! Rows of a list's elements, each of so many cells. -/
section
variable {α : Type} {f : α → List Value} {s : Nat}
theorem flat_length (hf : ∀ x, (f x).length = s) (l : List α) : (l.flatMap f).length = l.length * s := by
  induction l with
  | nil => simp
  | cons x l ih => rw [List.flatMap_cons, List.length_append, hf, ih, List.length_cons, Nat.add_mul]; omega
theorem flat_get (hf : ∀ x, (f x).length = s) : ∀ (l : List α) (j i : Nat) (x : α), l[j]? = some x → i < s → (l.flatMap f)[j * s + i]? = (f x)[i]?
  | [], j, i, x, h, _ => by simp at h
  | y :: l, 0, i, x, h, hi => by
    simp at h
    subst h
    rw [List.flatMap_cons, List.getElem?_append_left (by rw [hf]; omega)]
    simp
  | y :: l, j + 1, i, x, h, hi => by
    rw [List.flatMap_cons, List.getElem?_append_right (by rw [hf, Nat.add_mul]; omega), hf]
    have e : (j + 1) * s + i - s = j * s + i := by rw [Nat.add_mul]; omega
    rw [e]
    exact flat_get hf l j i x (by simpa using h) hi
end
end Go.Proofs.YtmpcbkonelcceaaDoor

/- Contracts of the functions of chapter 1 that only compute with integers: program and model, each against one Lean function. -/
namespace Go.Proofs.YtmpcbkonelcceaaDoor
open Go.RowKit


def minI (a b : Int) : Int := if b < a then b else a
def maxI (a b : Int) : Int := if a < b then b else a

/-- the test 'a ≤ n ≤ b', closed to the walk. -/
def inB (n a b : Int) : Bool := decide (a ≤ n) && decide (n ≤ b)
theorem impl_InRange (n a b : Int) (w : World) : Calls Tryd.prog 75 #[.int .i64 n, .int .i64 a, .int .i64 b] w fun e w' => e = .returned (.bool (inB n a b)) ∧ w = w' := by
  unfold inB
  by_cases h1 : a ≤ n
  all_goals
    by_cases h2 : n ≤ b
    all_goals
      go_enter Tryd.func75, Tryd.ntmps75
      go_wp2
      go_ret
      exact ⟨by simp [h1, h2], rfl⟩
theorem spec_l1In (n a b : Int) (w : World) : Calls Tryd.prog 49 #[.int .i64 n, .int .i64 a, .int .i64 b] w fun e w' => e = .returned (.bool (inB n a b)) ∧ w = w' := by
  unfold inB
  by_cases h1 : a ≤ n
  all_goals
    by_cases h2 : n ≤ b
    all_goals
      go_enter Tryd.func49, Tryd.ntmps49
      go_wp2
      go_ret
      exact ⟨by simp [h1, h2], rfl⟩
theorem spec_Min (a b : Int) (w : World) : Calls Tryd.prog 30 #[.int .i64 a, .int .i64 b] w fun e w' => e = .returned (.int .i64 (minI a b)) ∧ w = w' := by
  by_cases h : b < a
  all_goals
    go_enter Tryd.func30, Tryd.ntmps30
    go_wp2
    go_ret
    exact ⟨ret_i (by first | (unfold minI; split <;> omega) | (unfold maxI; split <;> omega)), rfl⟩
theorem spec_Max (a b : Int) (w : World) : Calls Tryd.prog 62 #[.int .i64 a, .int .i64 b] w fun e w' => e = .returned (.int .i64 (maxI a b)) ∧ w = w' := by
  by_cases h : a < b
  all_goals
    go_enter Tryd.func62, Tryd.ntmps62
    go_wp2
    go_ret
    exact ⟨ret_i (by first | (unfold minI; split <;> omega) | (unfold maxI; split <;> omega)), rfl⟩
/-- what widen leaves. -/
def widenW (p q : Addr) (l g n : Int) (w : World) : World :=
  if g < n then (if n < l then w.setCell p (.int .i64 n) else w).setCell q (.int .i64 n) else if n < l then w.setCell p (.int .i64 n) else w
theorem widenW_lt {p q : Addr} {l g n : Int} {w : World} (h : n < l) (h2 : ¬ g < n) : widenW p q l g n w = w.setCell p (.int .i64 n) := by unfold widenW; rw [if_neg h2, if_pos h]
theorem widenW_gt {p q : Addr} {l g n : Int} {w : World} (h : ¬ n < l) (h2 : g < n) : widenW p q l g n w = w.setCell q (.int .i64 n) := by unfold widenW; rw [if_pos h2, if_neg h]
theorem widenW_eq {p q : Addr} {l g n : Int} {w : World} (h : ¬ n < l) (h2 : ¬ g < n) : widenW p q l g n w = w := by unfold widenW; rw [if_neg h2, if_neg h]
theorem impl_widen (p q : Addr) (l g n : Int) (w : World) (hl : w.cell? p = some (.int .i64 l)) (hg : w.cell? q = some (.int .i64 g)) (hpq : p ≠ q) (fp : w.frozen? p = false) (fq : w.frozen? q = false) :
    Calls Tryd.prog 95 #[.pointer (some p), .pointer (some q), .int .i64 n] w fun e w' => e = .returned (.tuple #[]) ∧
      w' = widenW p q l g n w := by
  have hg' : (w.setCell p (.int .i64 n)).cell? q = some (.int .i64 g) := by rw [World.cell?_setCell_other _ _ _ _ hpq]; exact hg
  by_cases h1 : n < l
  all_goals
    by_cases h2 : g < n
    all_goals
      go_enter Tryd.func95, Tryd.ntmps95
      go_wp2
      go_end0
      exact ⟨rfl, by unfold widenW; (repeat' split) <;> first | rfl | omega⟩
theorem impl_extremes1 (a r : Int) (b o : Nat) (w : World) (hb : b < w.heap.size) (hc : w.cell? ⟨b, o, none⟩ = some (.int .i64 r)) :
    Calls Tryd.prog 76 #[.int .i64 a, .slice (some ⟨b, o, none⟩) 1 1] w fun e w' =>
      e = .returned (.tuple #[.int .i64 (minI a r), .int .i64 (maxI a r)]) ∧ Below w.heap.size w w' := by
  by_cases h1 : r < a
  all_goals
    by_cases h2 : a < r
    first | omega | skip
    all_goals
      go_enter Tryd.func76, Tryd.ntmps76
      go_wp2
      refine wp_loop_rounds 2 ?_
      rw [rounds_succ]
      go_wp2_with fail
      refine (impl_widen _ _ a a r _ (by go_simp) (by go_simp) (by simp) (by go_simp) (by go_simp)).mono ?_
      rintro e w' ⟨rfl, rfl⟩
      first | rw [widenW_lt (by omega) (by omega)] | rw [widenW_gt (by omega) (by omega)] | rw [widenW_eq (by omega) (by omega)]
      go_wp2
      rw [rounds_succ]
      go_wp2
      go_quiet (fail)
      go_wp2
      go_ret2
      exact ⟨ret_ii (by unfold minI; split <;> omega) (by unfold maxI; split <;> omega), belowN (((Below.refl _ _).alloc (Nat.le_refl _) _).alloc (by simp) _) _⟩
theorem impl_Min (a b : Int) (w : World) : Calls Tryd.prog 55 #[.int .i64 a, .int .i64 b] w fun e w' => e = .returned (.int .i64 (minI a b)) ∧ Below w.heap.size w w' := by
  go_enter Tryd.func55, Tryd.ntmps55
  go_wp2_with fail
  refine (impl_extremes1 a b _ _ _ (by simp) (by go_simp)).mono ?_
  rintro e w' ⟨rfl, hb⟩
  go_wp2
  go_ret
  exact ⟨rfl, ((Below.refl _ _).alloc (Nat.le_refl _) _).trans (hb.mono (by simp))⟩
theorem impl_Max (a b : Int) (w : World) : Calls Tryd.prog 70 #[.int .i64 a, .int .i64 b] w fun e w' => e = .returned (.int .i64 (maxI a b)) ∧ Below w.heap.size w w' := by
  go_enter Tryd.func70, Tryd.ntmps70
  go_wp2_with fail
  refine (impl_extremes1 a b _ _ _ (by simp) (by go_simp)).mono ?_
  rintro e w' ⟨rfl, hb⟩
  go_wp2
  go_ret
  exact ⟨rfl, ((Below.refl _ _).alloc (Nat.le_refl _) _).trans (hb.mono (by simp))⟩
def ceilDiv (a b : Int) : Int := if inB a 0 1000000000000 && inB b 1 1000000000000 then (a + b - 1) / b else 0
def modI (a b : Int) : Int := if inB b 1 1000000000000 then a % b else 0
theorem mod_of_tmod (a b : Int) (hb : 1 ≤ b) : (a.tmod b < 0 → a.tmod b + b = a % b) ∧ (0 ≤ a.tmod b → a.tmod b = a % b) ∧ -b < a.tmod b ∧ a.tmod b < b := by
  have h1 := Int.tmod_lt_of_pos a (show 0 < b by omega)
  have h2 := Int.lt_tmod_of_pos a (show 0 < b by omega)
  have h3 : a % b = a.tmod b % b := by
    have h := Int.tmod_add_mul_tdiv a b
    conv => lhs; rw [← h]
    rw [Int.add_mul_emod_self_left]
  refine ⟨fun h => ?_, fun h => ?_, h2, h1⟩
  · rw [h3]
    have h4 : (a.tmod b + b) % b = a.tmod b % b := by simp
    rw [← h4, Int.emod_eq_of_lt (by omega) (by omega)]
  · rw [h3, Int.emod_eq_of_lt h h1]
theorem inB_t {n a b : Int} (h : inB n a b = true) : a ≤ n ∧ n ≤ b := by simpa [inB] using h
theorem inB_f {n a b : Int} (h : inB n a b = false) : n < a ∨ b < n := by simp [inB] at h; omega
theorem impl_Mod (a b : Int) (w : World) : Calls Tryd.prog 109 #[.int .i64 a, .int .i64 b] w fun e w' => e = .returned (.int .i64 (modI a b)) ∧ w = w' := by
  unfold modI
  cases h1 : inB b 1 1000000000000
  · have H1 := Lib.hid h1
    clear h1
    go_enter Tryd.func109, Tryd.ntmps109
    go_wp2_with (go_at_call 75; refine (impl_InRange _ _ _ _).mono ?_; rintro e w' ⟨rfl, rfl⟩; rw [H1.out])
    go_ret
    exact ⟨by simp, rfl⟩
  · obtain ⟨hb1, hb2⟩ := inB_t h1
    have H1 := Lib.hid h1
    clear h1
    by_cases hn : a.tmod b < 0
    all_goals
      go_enter Tryd.func109, Tryd.ntmps109
      go_wp2_with (go_at_call 75; refine (impl_InRange _ _ _ _).mono ?_; rintro e w' ⟨rfl, rfl⟩; rw [H1.out])
      go_ret
      refine ⟨ret_i ?_, rfl⟩
      obtain ⟨m1, m2, m3, m4⟩ := mod_of_tmod a b hb1
      first | (rw [IntWalk.wrap64_in _ (by omega)]; exact m1 (by omega)) | exact m2 (by omega)
end Go.Proofs.YtmpcbkonelcceaaDoor

/- Paths as Lean data: what chapter 4's functions answer. No program. -/
namespace Go.Proofs.YtmpcbkonelcceaaDoor
open Go.RowKit

/-- a path. -/
structure Pth where
  id : Int
  kind : Int
  frm : Int
  to : Int
deriving DecidableEq
def Pth.cells (p : Pth) : List Value := [.int .i64 p.id, .int .i64 p.kind, .int .i64 p.frm, .int .i64 p.to]
def Pth.val (p : Pth) : Value := .agg #[.int .i64 p.id, .int .i64 p.kind, .int .i64 p.frm, .int .i64 p.to]
theorem Pth.cells_length (p : Pth) : p.cells.length = 4 := rfl
def Pth.wf (p : Pth) : Prop := (Lit.int .i64 p.id).wf = true ∧ (Lit.int .i64 p.kind).wf = true ∧ (Lit.int .i64 p.frm).wf = true ∧ (Lit.int .i64 p.to).wf = true
/-- what IsPath answers. -/
def isP (p : Pth) : Bool := inB p.id 1 20 && inB p.kind 1 3 && inB p.frm 0 3 && inB p.to 0 3 && (decide (p.frm = p.to) == decide (p.kind = 2))
def inPl (a : Int) : Int := if inB a 0 3 then 2 * a else -1
def outPl (a : Int) : Int := if inB a 0 3 then 2 * a + 1 else -1
/-- the four turns. -/
def turnN (n : Int) : ByteArray := if n = 0 then ⟨#[119, 97, 108, 107]⟩ else if n = 1 then ⟨#[110, 101, 120, 116]⟩ else if n = 2 then ⟨#[111, 118, 101, 114]⟩ else ⟨#[108, 97, 115, 116]⟩
/-- what TurnOf answers. -/
def turnS (p : Pth) : ByteArray := if isP p then turnN (modI (p.to - p.frm) 4) else ⟨#[]⟩
theorem isP_facts (p : Pth) : isP p = true → (1 ≤ p.id ∧ p.id ≤ 20) ∧ (1 ≤ p.kind ∧ p.kind ≤ 3) ∧ (0 ≤ p.frm ∧ p.frm ≤ 3) ∧ (0 ≤ p.to ∧ p.to ≤ 3) ∧ (p.frm = p.to ↔ p.kind = 2) := by
  intro h
  simp only [isP, inB, Bool.and_eq_true, decide_eq_true_eq, beq_iff_eq, decide_eq_decide] at h
  obtain ⟨⟨⟨⟨h1, h2⟩, h3⟩, h4⟩, h5⟩ := h
  exact ⟨h1, h2, h3, h4, h5⟩
/-- x is met when one goes from a upwards, before b. -/
def betw (a x b : Int) : Bool := decide ((x - a) % 8 < (b - a) % 8)
/-- what Interleave answers. -/
def inter (a b c d : Int) : Bool :=
  decide (a ≠ b ∧ a ≠ c ∧ a ≠ d ∧ b ≠ c ∧ b ≠ d ∧ c ≠ d) && inB a 0 7 && inB b 0 7 && inB c 0 7 && inB d 0 7 && (betw a c b != betw a d b)
/-- how many of c and d are met before the p-th place behind a. -/
def met (a c d : Int) (p : Nat) : Nat := (if (c - a) % 8 < p then 1 else 0) + (if (d - a) % 8 < p then 1 else 0)
/-- the first i of these numbers are different and in range. -/
def okNs (l : List Int) (i : Nat) : Prop := ∀ j, j < i → inB (l.getD j 0) 0 7 = true ∧ ∀ k, k < j → l.getD j 0 ≠ l.getD k 0
theorem okNs_step {l : List Int} {i : Nat} (h : okNs l i) (h1 : inB (l.getD i 0) 0 7 = true) (h2 : ∀ k, k < i → l.getD i 0 ≠ l.getD k 0) : okNs l (i + 1) := by
  intro j hj
  by_cases e : j = i
  · subst e; exact ⟨h1, h2⟩
  · exact h j (by omega)
theorem okNs_four {a b c d : Int} (h : okNs [a, b, c, d] 4) : (inB a 0 7 = true ∧ inB b 0 7 = true ∧ inB c 0 7 = true ∧ inB d 0 7 = true) ∧ a ≠ b ∧ a ≠ c ∧ a ≠ d ∧ b ≠ c ∧ b ≠ d ∧ c ≠ d := by
  have h0 := h 0 (by decide)
  have h1 := h 1 (by decide)
  have h2 := h 2 (by decide)
  have h3 := h 3 (by decide)
  have e1 := h1.2 0 (by decide)
  have e2 := h2.2 0 (by decide)
  have e3 := h2.2 1 (by decide)
  have e4 := h3.2 0 (by decide)
  have e5 := h3.2 1 (by decide)
  have e6 := h3.2 2 (by decide)
  simp at h0 h1 h2 h3 e1 e2 e3 e4 e5 e6
  exact ⟨⟨h0, h1.1, h2.1, h3.1⟩, fun e => e1 e.symm, fun e => e2 e.symm, fun e => e4 e.symm, fun e => e3 e.symm, fun e => e5 e.symm, fun e => e6 e.symm⟩
theorem inter_four {a b c d : Int} (h : okNs [a, b, c, d] 4) : inter a b c d = (betw a c b != betw a d b) := by
  obtain ⟨⟨h0, h1, h2, h3⟩, h4⟩ := okNs_four h
  unfold inter
  rw [h0, h1, h2, h3, decide_eq_true h4]
  simp
theorem inter_eq {a b c d : Int} {j k : Nat} (hk : k < j) (hj : j < 4) (h : [a, b, c, d].getD j 0 = [a, b, c, d].getD k 0) : inter a b c d = false := by
  have h4 : ¬ (a ≠ b ∧ a ≠ c ∧ a ≠ d ∧ b ≠ c ∧ b ≠ d ∧ c ≠ d) := by
    rintro ⟨e1, e2, e3, e4, e5, e6⟩
    match j, k, hk, hj with
    | 1, 0, _, _ => exact e1 (by simpa using h.symm)
    | 2, 0, _, _ => exact e2 (by simpa using h.symm)
    | 2, 1, _, _ => exact e4 (by simpa using h.symm)
    | 3, 0, _, _ => exact e3 (by simpa using h.symm)
    | 3, 1, _, _ => exact e5 (by simpa using h.symm)
    | 3, 2, _, _ => exact e6 (by simpa using h.symm)
  unfold inter
  rw [decide_eq_false h4]
  simp
theorem inter_out {a b c d : Int} {j : Nat} (hj : j < 4) (h : inB ([a, b, c, d].getD j 0) 0 7 = false) : inter a b c d = false := by
  unfold inter
  match j, hj with
  | 0, _ => simp at h; simp [h]
  | 1, _ => simp at h; simp [h]
  | 2, _ => simp at h; simp [h]
  | 3, _ => simp at h; simp [h]
theorem met_end (a b c d : Int) : (decide (met a c d ((b - a) % 8).toNat = 1)) = (betw a c b != betw a d b) := by
  have e : (((b - a) % 8).toNat : Int) = (b - a) % 8 := by omega
  unfold met betw
  by_cases h1 : (c - a) % 8 < (b - a) % 8 <;> by_cases h2 : (d - a) % 8 < (b - a) % 8 <;> simp [e, h1, h2]
/-- what Conflict answers. -/
def conf (a b : Pth) : Bool :=
  if isP a && isP b && !(decide (a.kind = 2) && decide (b.kind = 2)) then
    if a.kind = 2 then decide (b.frm = a.frm) || decide (b.to = a.frm)
    else if b.kind = 2 then decide (a.frm = b.frm) || decide (a.to = b.frm)
    else if a.frm = b.frm then false
    else if a.to = b.to then true
    else inter (inPl a.frm) (outPl a.to) (inPl b.frm) (outPl b.to)
  else false
theorem conf_no {a b : Pth} (h : (isP a && isP b && !(decide (a.kind = 2) && decide (b.kind = 2))) = false) : conf a b = false := by unfold conf; rw [h]; rfl
/-- the index of the first path with this Id. -/
def findK (id : Int) : List Pth → Option Nat
  | [] => none
  | p :: ps => if p.id = id then some 0 else (findK id ps).map (· + 1)
/-- what FindPath answers. -/
def findI (id : Int) (ps : List Pth) : Int := match findK id ps with | none => -1 | some k => k
theorem findK_some {id : Int} : ∀ {ps : List Pth} {k : Nat} {p : Pth}, (∀ j q, j < k → ps[j]? = some q → q.id ≠ id) → ps[k]? = some p → p.id = id → findK id ps = some k
  | [], k, p, _, h, _ => by simp at h
  | x :: ps, 0, p, _, h, hp => by
    simp at h
    subst h
    simp [findK, hp]
  | x :: ps, k + 1, p, hn, h, hp => by
    have h0 := hn 0 x (by omega) (by simp)
    have ih := findK_some (ps := ps) (k := k) (p := p) (fun j q hj hq => hn (j + 1) q (by omega) (by simpa using hq)) (by simpa using h) hp
    simp [findK, h0, ih]
theorem findK_none {id : Int} : ∀ {ps : List Pth}, (∀ (j : Nat) q, ps[j]? = some q → q.id ≠ id) → findK id ps = none
  | [], _ => rfl
  | x :: ps, hn => by
    have h0 := hn 0 x (by simp)
    have ih := findK_none (ps := ps) (fun j q hq => hn (j + 1) q (by simpa using hq))
    simp [findK, h0, ih]
theorem findK_at {id : Int} : ∀ {ps : List Pth} {k : Nat}, findK id ps = some k → ∃ p, ps[k]? = some p ∧ p.id = id ∧ ∀ (j : Nat) q, j < k → ps[j]? = some q → q.id ≠ id
  | [], k, h => by simp [findK] at h
  | x :: ps, k, h => by
    unfold findK at h
    split at h
    · rename_i hx
      simp at h
      subst h
      exact ⟨x, by simp, hx, fun j q hj => absurd hj (by omega)⟩
    · rename_i hx
      cases e : findK id ps with
      | none => rw [e] at h; simp at h
      | some m =>
        rw [e] at h
        simp at h
        subst h
        obtain ⟨p, h1, h2, h3⟩ := findK_at e
        refine ⟨p, by simpa using h1, h2, fun j q hj hq => ?_⟩
        match j, hj, hq with
        | 0, _, hq => simp at hq; subst hq; exact hx
        | j + 1, hj, hq => exact h3 j q (by omega) (by simpa using hq)
/-- the k-th path is valid, and its Id is beyond the one before. -/
def goodAt (ps : List Pth) (k : Nat) : Bool := match ps[k]? with
  | none => false
  | some p => isP p && (match k with | 0 => true | m + 1 => match ps[m]? with | none => false | some q => decide (q.id < p.id))
/-- what ArePaths answers. -/
def arePs (ps : List Pth) : Bool := (List.range ps.length).all (goodAt ps) && decide (ps.length ≤ 12)
theorem arePs_no {ps : List Pth} {k : Nat} (hk : k < ps.length) (h : goodAt ps k = false) : arePs ps = false := by
  unfold arePs
  have : (List.range ps.length).all (goodAt ps) = false := by
    rw [Bool.eq_false_iff]
    intro ha
    have := List.all_eq_true.1 ha k (List.mem_range.2 hk)
    rw [h] at this
    cases this
  rw [this]
  rfl
theorem arePs_end {ps : List Pth} (h : ∀ k, k < ps.length → goodAt ps k = true) : arePs ps = decide (ps.length ≤ 12) := by
  unfold arePs
  have : (List.range ps.length).all (goodAt ps) = true := List.all_eq_true.2 fun k hk => h k (List.mem_range.1 hk)
  rw [this]
  simp
end Go.Proofs.YtmpcbkonelcceaaDoor

/- Contracts of the laws' own helpers: copies, comparisons, marks. -/
namespace Go.Proofs.YtmpcbkonelcceaaDoor
open Go.RowKit
set_option linter.unusedVariables false

/-- what a mark writes. -/
def marks (k : IntKind) (s : Int) (n : Nat) : List Int := (List.range n).map fun (j : Nat) => k.wrap (s + (j : Int))
theorem marks_length (k : IntKind) (s : Int) (n : Nat) : (marks k s n).length = n := by simp [marks]
theorem marks_getD {k : IntKind} {s : Int} {n j : Nat} (h : j < n) : (marks k s n).getD j 0 = k.wrap (s + (j : Int)) := by
  simp [marks, List.getD_eq_getElem?_getD, h]
theorem set_prefix {zs ys : List Int} {j : Nat} {x : Int} (h : j < zs.length) (hx : ys.getD j 0 = x) (hj : j < ys.length) : (ys.take j ++ zs.drop j).set j x = ys.take (j + 1) ++ zs.drop (j + 1) := by
  apply List.ext_getElem?
  intro i
  have e : ys[j]? = some x := by rw [List.getElem?_eq_getElem hj] ; rw [List.getD_eq_getElem?_getD, List.getElem?_eq_getElem hj] at hx; simpa using hx
  simp only [List.getElem?_set, List.getElem?_append, List.length_append, List.length_take, List.length_drop, List.getElem?_take, List.getElem?_drop]
  by_cases h1 : i < j
  · have a1 : i < min j ys.length := by omega
    have a2 : i < min (j + 1) ys.length := by omega
    have a3 : ¬ j = i := by omega
    have a4 : i < j + 1 := by omega
    simp [h1, a1, a2, a3, a4]
  · by_cases h2 : i = j
    · subst h2
      have a2 : i < min (i + 1) ys.length := by omega
      have a3 : i < min i ys.length + (zs.length - i) := by omega
      simp only [a2, a3, if_true, e]
      have : i < i + 1 := by omega
      simp [this]
    · have a1 : ¬ i < min j ys.length := by omega
      have a2 : ¬ i < min (j + 1) ys.length := by omega
      have a3 : ¬ j = i := by omega
      rw [if_neg a3, if_neg a1, if_neg a2]
      congr 1
      omega
theorem take_all {zs : List Int} {n : Nat} (h : zs.length = n) (ys : List Int) (hy : ys.length ≤ n) : zs.take n ++ ys.drop n = zs := by
  rw [List.take_of_length_le (by omega), List.drop_of_length_le (by omega), List.append_nil]
/-- the first j elements are the same. -/
theorem same_step {a b : List Int} {j : Nat} (h : a.take j = b.take j) (ha : j < a.length) (hb : j < b.length) (e : a.getD j 0 = b.getD j 0) : a.take (j + 1) = b.take (j + 1) := by
  have e' : a[j] = b[j] := by
    rw [List.getD_eq_getElem?_getD, List.getD_eq_getElem?_getD, List.getElem?_eq_getElem ha, List.getElem?_eq_getElem hb] at e
    simpa using e
  rw [List.take_add_one, List.take_add_one, h, List.getElem?_eq_getElem ha, List.getElem?_eq_getElem hb, e']
theorem same_not {a b : List Int} {j : Nat} (e : ¬ a.getD j 0 = b.getD j 0) : decide (a = b) = false := by
  rw [decide_eq_false_iff_not]
  rintro rfl
  exact e rfl
theorem same_all {a b : List Int} {n : Nat} (h : a.take n = b.take n) (ha : a.length = n) (hb : b.length = n) : decide (a = b) = true := by
  rw [decide_eq_true_eq]
  rw [List.take_of_length_le (by omega), List.take_of_length_le (by omega)] at h
  exact h

theorem info_u8 : (Tryd.prog.info? 5).map (fun i => (i.zero, i.size, i.bytes)) = some (some (.int .u8 0), 1, IntKind.u8.bits / 8) := by kernel_rfl
theorem info_i64 : (Tryd.prog.info? 3).map (fun i => (i.zero, i.size, i.bytes)) = some (some (.int .i64 0), 1, IntKind.i64.bits / 8) := by kernel_rfl
theorem to_i64 (A : Option Addr) (n c B : Nat) (zs : List Int) (w : World) (h : IntsAt .i64 w B A n zs) (hB : B ≤ w.heap.size) (hn : n ≤ 4398046511104) :
    Calls Tryd.prog 19 #[.slice A n c] w fun e w' => e = .returned (.slice (some ⟨w.heap.size, 0, none⟩) n n) ∧ Own .i64 3 w' w.heap.size (.slice (some ⟨w.heap.size, 0, none⟩) n n) zs ∧ Below w.heap.size w w' := by
  have hl := h.1
  go_enter Tryd.func19, Tryd.ntmps19
  go_wp2_with ((with_reducible show wpList _ _ _ _ _ _); refine wpList_mk rfl _ _ _ rfl .i64 3 _ Tryd.underlying23 info_i64 (by decide) (n : Int) (n : Int) n rfl rfl rfl rfl hn ?_; intro w1 hown hgrow)
  go_loopw [4] (fun i wr => ∃ k : Nat, k ≤ n ∧ i = .int .i64 k ∧ Own .i64 3 wr w.heap.size (.slice (some ⟨w.heap.size, 0, none⟩) n n) (zs.take k ++ (List.replicate n 0).drop k) ∧ Below w.heap.size w wr) (fun i _ => n - (intOf i).toNat)
  case atStart => exact ⟨0, Nat.zero_le _, rfl, by simpa using hown, below_grown hgrow⟩
  case round =>
    obtain ⟨k, hk, rfl, hown, hbl⟩ := hrel
    by_cases hlt : k < n
    · obtain ⟨ad, rfl, hab, hcell⟩ := h.2 (by omega)
      have hc := (hbl.cell (by rw [add_block]; omega)).trans (hcell k hlt)
      have hf := hown.free k
      have hc2 := hown.cell k (by simp; omega)
      have hs := hown.stored k (zs.getD k 0)
      rw [set_prefix (by simp; omega) rfl (by omega)] at hs
      have HS := Lib.hid hs
      clear hcell hown hs
      generalize zs.getD k 0 = z at *
      go_wp2
      go_roundw
      case rel => exact ⟨k + 1, by omega, by go_num, HS.out, hbl.setCell (Nat.le_refl _) _⟩
      case measure => simp [intOf]; omega
    · obtain rfl : k = n := by omega
      rw [take_all hl _ (by simp)] at hown
      go_wp2
      go_ret
      exact ⟨rfl, hown, hbl⟩
theorem eq_i64 (A : Option Addr) (n c B : Nat) (zs : List Int) (A2 : Option Addr) (n2 c2 B2 : Nat) (zs2 : List Int) (w : World) (h : IntsAt .i64 w B A n zs) (h2 : IntsAt .i64 w B2 A2 n2 zs2) (hn : n ≤ 4398046511104) (hn2 : n2 ≤ 4398046511104) :
    Calls Tryd.prog 21 #[.slice A n c, .slice A2 n2 c2] w fun e w' => e = .returned (.bool (decide (zs = zs2))) ∧ Below w.heap.size w w' := by
  have hl := h.1
  have hl2 := h2.1
  by_cases hne : n = n2
  · subst hne
    go_enter Tryd.func21, Tryd.ntmps21
    go_wp2
    go_loopw [5] (fun i wr => ∃ k : Nat, k ≤ n ∧ i = .int .i64 k ∧ zs.take k = zs2.take k ∧ Below w.heap.size w wr ∧ wr.heap = w.heap) (fun i _ => n - (intOf i).toNat)
    case atStart => exact ⟨0, Nat.zero_le _, rfl, by simp, Below.refl _ _, rfl⟩
    case round =>
      obtain ⟨k, hk, rfl, hsame, hbl, hheap⟩ := hrel
      by_cases hlt : k < n
      · obtain ⟨ad, rfl, hab, hcell⟩ := h.2 (by omega)
        obtain ⟨ad2, rfl, hab2, hcell2⟩ := h2.2 (by omega)
        have hc : wr.cell? (ad.add k) = _ := (World.cell?_of_block (by rw [hheap])).trans (hcell k hlt)
        have hc2 : wr.cell? (ad2.add k) = _ := (World.cell?_of_block (by rw [hheap])).trans (hcell2 k hlt)
        have HH := Lib.hid hheap
        clear hcell hcell2 hheap
        by_cases e : zs.getD k 0 = zs2.getD k 0
        · have HN := Lib.hid (same_step hsame (by omega) (by omega) e)
          clear hsame
          have e' : (!(zs.getD k 0 == zs2.getD k 0)) = false := by simpa using e
          have E' := Lib.hid e'
          clear e e'
          generalize zs.getD k 0 = z at *
          generalize zs2.getD k 0 = z2 at *
          have e' := E'.out
          obtain rfl : z = z2 := by simpa using e'
          clear e'
          go_wp2
          go_quiet (fail)
          go_wp2
          go_roundw
          case rel => exact ⟨k + 1, by omega, by go_num, HN.out, belowN hbl _, HH.out⟩
          case measure => simp [intOf]; omega
        · have HN := Lib.hid (same_not e)
          have e' : (!(zs.getD k 0 == zs2.getD k 0)) = true := by simpa using e
          have e2 : (zs.getD k 0 != zs2.getD k 0) = true := by simpa using e
          clear hsame e
          generalize zs.getD k 0 = z at *
          generalize zs2.getD k 0 = z2 at *
          go_wp2
          go_quiet (fail)
          go_wp2
          go_ret
          exact ⟨by rw [HN.out]; rfl, belowN hbl _⟩
      · obtain rfl : k = n := by omega
        have HN := Lib.hid (same_all hsame hl hl2)
        clear hsame
        go_wp2
        go_ret
        exact ⟨by rw [HN.out]; rfl, hbl⟩
  · have HN : Hid (decide (zs = zs2) = false) := Lib.hid (by rw [decide_eq_false_iff_not]; rintro rfl; omega)
    go_enter Tryd.func21, Tryd.ntmps21
    go_wp2
    go_ret
    exact ⟨by rw [HN.out]; rfl, Below.refl _ _⟩
theorem spec_EqualInts (A : Option Addr) (n c B : Nat) (zs : List Int) (A2 : Option Addr) (n2 c2 B2 : Nat) (zs2 : List Int) (w : World) (h : IntsAt .i64 w B A n zs) (h2 : IntsAt .i64 w B2 A2 n2 zs2) (hn : n ≤ 4398046511104) (hn2 : n2 ≤ 4398046511104) :
    Calls Tryd.prog 40 #[.slice A n c, .slice A2 n2 c2] w fun e w' => e = .returned (.bool (decide (zs = zs2))) ∧ Below w.heap.size w w' := by
  have hl := h.1
  have hl2 := h2.1
  by_cases hne : n = n2
  · subst hne
    go_enter Tryd.func40, Tryd.ntmps40
    go_wp2
    go_loopw [5] (fun i wr => ∃ k : Nat, k ≤ n ∧ i = .int .i64 k ∧ zs.take k = zs2.take k ∧ Below w.heap.size w wr ∧ wr.heap = w.heap) (fun i _ => n - (intOf i).toNat)
    case atStart => exact ⟨0, Nat.zero_le _, rfl, by simp, Below.refl _ _, rfl⟩
    case round =>
      obtain ⟨k, hk, rfl, hsame, hbl, hheap⟩ := hrel
      by_cases hlt : k < n
      · obtain ⟨ad, rfl, hab, hcell⟩ := h.2 (by omega)
        obtain ⟨ad2, rfl, hab2, hcell2⟩ := h2.2 (by omega)
        have hc : wr.cell? (ad.add k) = _ := (World.cell?_of_block (by rw [hheap])).trans (hcell k hlt)
        have hc2 : wr.cell? (ad2.add k) = _ := (World.cell?_of_block (by rw [hheap])).trans (hcell2 k hlt)
        have HH := Lib.hid hheap
        clear hcell hcell2 hheap
        by_cases e : zs.getD k 0 = zs2.getD k 0
        · have HN := Lib.hid (same_step hsame (by omega) (by omega) e)
          clear hsame
          have e' : (!(zs.getD k 0 == zs2.getD k 0)) = false := by simpa using e
          have E' := Lib.hid e'
          clear e e'
          generalize zs.getD k 0 = z at *
          generalize zs2.getD k 0 = z2 at *
          have e' := E'.out
          obtain rfl : z = z2 := by simpa using e'
          clear e'
          go_wp2
          go_quiet (fail)
          go_wp2
          go_roundw
          case rel => exact ⟨k + 1, by omega, by go_num, HN.out, belowN hbl _, HH.out⟩
          case measure => simp [intOf]; omega
        · have HN := Lib.hid (same_not e)
          have e' : (!(zs.getD k 0 == zs2.getD k 0)) = true := by simpa using e
          have e2 : (zs.getD k 0 != zs2.getD k 0) = true := by simpa using e
          clear hsame e
          generalize zs.getD k 0 = z at *
          generalize zs2.getD k 0 = z2 at *
          go_wp2
          go_quiet (fail)
          go_wp2
          go_ret
          exact ⟨by rw [HN.out]; rfl, belowN hbl _⟩
      · obtain rfl : k = n := by omega
        have HN := Lib.hid (same_all hsame hl hl2)
        clear hsame
        go_wp2
        go_ret
        exact ⟨by rw [HN.out]; rfl, hbl⟩
  · have HN : Hid (decide (zs = zs2) = false) := Lib.hid (by rw [decide_eq_false_iff_not]; rintro rfl; omega)
    go_enter Tryd.func40, Tryd.ntmps40
    go_wp2
    go_ret
    exact ⟨by rw [HN.out]; rfl, Below.refl _ _⟩
theorem mark_i64 (A : Option Addr) (n c lo s : Nat) (zs : List Int) (w : World) (h : Own .i64 3 w lo (.slice A n c) zs) (hn : n ≤ 4398046511104) (hs : s ≤ 70368744177664) :
    Calls Tryd.prog 22 #[.slice A n c, .int .i64 s] w fun e w' => e = .returned (.int .i64 ((s + n : Nat) : Int)) ∧ Own .i64 3 w' lo (.slice A n c) (marks .i64 s n) ∧ w.grownBy w' (Value.ownBlock (.slice A n c)) := by
  have hl := h.len
  go_enter Tryd.func22, Tryd.ntmps22
  go_wp2
  go_loopw [1, 5] (fun x i wr => ∃ k : Nat, k ≤ n ∧ i = .int .i64 k ∧ x = .int .i64 ((s + k : Nat) : Int) ∧ Own .i64 3 wr lo (.slice A n c) ((marks .i64 s n).take k ++ zs.drop k) ∧ w.grownBy wr (Value.ownBlock (.slice A n c))) (fun _ i _ => n - (intOf i).toNat)
  case atStart => exact ⟨0, Nat.zero_le _, rfl, rfl, by simpa using h, World.grownBy.refl _ _⟩
  case round =>
    obtain ⟨k, hk, rfl, rfl, hown, hbl⟩ := hrel
    by_cases hlt : k < n
    · rcases hown.shape with ⟨e, he⟩ | ⟨g, cap, e, hg, hgs, _⟩
      · injection e with _ e2; omega
      · injection e with e1 _ e3
        obtain rfl := e1
        have hc := hown.cell k (by simp [marks]; omega)
        have hf := hown.free k
        have hst := hown.stored k (IntKind.i64.wrap ((s + k : Nat) : Int))
        rw [set_prefix (by omega) (by rw [marks_getD hlt]; simp) (by rw [marks_length]; exact hlt)] at hst
        have HS := Lib.hid hst
        have HG := Lib.hid hbl
        clear hown hst hbl
        generalize ((marks .i64 s n).take k ++ zs.drop k).getD k 0 = z at *
        go_wp2
        go_roundw
        case rel =>
          refine ⟨k + 1, by omega, by go_num, by go_num, ?_, ?_⟩
          · have h1 := HS.out
            simp at h1 ⊢
            first
              | exact h1
              | (rw [show IntKind.i64.wrap ((s : Int) + (k : Int)) = (s : Int) + (k : Int) from by rw [IntKind.wrap_i64]; omega] at h1; exact h1)
          · exact only_setCell HG.out _ _
        case measure => simp [intOf]; omega
    · obtain rfl : k = n := by omega
      rw [take_all (marks_length _ _ _) _ (by omega)] at hown
      go_wp2
      go_ret
      exact ⟨rfl, hown, hbl⟩
theorem held_i64 (A : Option Addr) (n c B s : Nat) (w : World) (h : IntsAt .i64 w B A n (marks .i64 s n)) (hn : n ≤ 4398046511104) (hs : s ≤ 70368744177664) :
    Calls Tryd.prog 37 #[.slice A n c, .int .i64 s] w fun e w' => e = .returned (.int .i64 ((s + n : Nat) : Int)) ∧ Below w.heap.size w w' := by
  go_enter Tryd.func37, Tryd.ntmps37
  go_wp2
  go_loopw [1, 5] (fun x i wr => ∃ k : Nat, k ≤ n ∧ i = .int .i64 k ∧ x = .int .i64 ((s + k : Nat) : Int) ∧ Below w.heap.size w wr ∧ wr.heap = w.heap) (fun _ i _ => n - (intOf i).toNat)
  case atStart => exact ⟨0, Nat.zero_le _, rfl, rfl, Below.refl _ _, rfl⟩
  case round =>
    obtain ⟨k, hk, rfl, rfl, hbl, hheap⟩ := hrel
    by_cases hlt : k < n
    · obtain ⟨ad, rfl, hab, hcell⟩ := h.2 (by omega)
      have hc : wr.cell? (ad.add k) = _ := (World.cell?_of_block (by rw [hheap])).trans (hcell k hlt)
      rw [marks_getD hlt] at hc
      have HH := Lib.hid hheap
      clear hcell hheap
      go_wp2
      go_roundw
      case rel => exact ⟨k + 1, by omega, by go_num, by go_num, hbl, HH.out⟩
      case measure => simp [intOf]; omega
    · obtain rfl : k = n := by omega
      go_wp2
      go_ret
      exact ⟨rfl, hbl⟩
end Go.Proofs.YtmpcbkonelcceaaDoor

/- Contracts of chapter 4: program and model. -/
namespace Go.Proofs.YtmpcbkonelcceaaDoor
open Go.RowKit
set_option linter.unusedVariables false

theorem boxed {w w1 : World} {cs : Array Value} {T : TypeId} {fr : Nat × Nat} (hb : Below (w.alloc (.cells cs T fr)).heap.size (w.alloc (.cells cs T fr)) w1) (j : Nat) : w1.cell? ⟨w.heap.size, j, none⟩ = cs[j]? := by
  rw [hb.cell (p := ⟨w.heap.size, j, none⟩) (by simp), cell_of_row _ _ j cs T fr (heap_alloc_new w _)]
theorem cell_past {w : World} {p : Addr} {v : Value} (h : w.cell? p = some v) (o : Obj) : (w.alloc o).cell? p = some v := by
  have hlt : p.block < w.heap.size := by
    rcases Nat.lt_or_ge p.block w.heap.size with h' | h'
    · exact h'
    · simp [World.cell?, Array.getElem?_eq_none h'] at h
  exact (World.cell?_of_block (Below.heap_alloc w o _ hlt)).trans h
theorem spec_IsPath (p : Pth) (w : World) : Calls Tryd.prog 78 #[p.val] w fun e w' => e = .returned (.bool (isP p)) ∧ Below w.heap.size w w' := by
  obtain ⟨a, b, c, d⟩ := p
  simp only [Pth.val]
  have HI : Hid (isP ⟨a, b, c, d⟩ = (inB a 1 20 && inB b 1 3 && inB c 0 3 && inB d 0 3 && (decide (c = d) == decide (b = 2)))) := Lib.hid rfl
  go_enter Tryd.func78, Tryd.ntmps78
  go_wp2_with fail
  refine (spec_l1In _ _ _ _).mono ?_
  rintro e w1 ⟨rfl, rfl⟩
  cases h0 : inB a 1 20
  · rw [h0] at HI
    go_wp2
    go_ret
    exact ⟨by rw [HI.out]; simp, (Below.refl _ _).alloc (Nat.le_refl _) _⟩
  · rw [h0] at HI
    go_wp2_with fail
    refine (spec_l1In _ _ _ _).mono ?_
    rintro e w1 ⟨rfl, rfl⟩
    cases h1 : inB b 1 3
    · rw [h1] at HI
      go_wp2
      go_ret
      exact ⟨by rw [HI.out]; simp, (Below.refl _ _).alloc (Nat.le_refl _) _⟩
    · rw [h1] at HI
      go_wp2_with fail
      refine (spec_l1In _ _ _ _).mono ?_
      rintro e w1 ⟨rfl, rfl⟩
      cases h2 : inB c 0 3
      · rw [h2] at HI
        go_wp2
        go_ret
        exact ⟨by rw [HI.out]; simp, (Below.refl _ _).alloc (Nat.le_refl _) _⟩
      · rw [h2] at HI
        go_wp2_with fail
        refine (spec_l1In _ _ _ _).mono ?_
        rintro e w1 ⟨rfl, rfl⟩
        cases h3 : inB d 0 3
        · rw [h3] at HI
          go_wp2
          go_ret
          exact ⟨by rw [HI.out]; first | (simp; done) | (simp; rfl), (Below.refl _ _).alloc (Nat.le_refl _) _⟩
        · rw [h3] at HI
          go_wp2
          go_ret
          exact ⟨by rw [HI.out]; first | (simp; done) | (simp; rfl), (Below.refl _ _).alloc (Nat.le_refl _) _⟩
theorem spec_InPlace (a : Int) (w : World) : Calls Tryd.prog 80 #[.int .i64 a] w fun e w' => e = .returned (.int .i64 (inPl a)) ∧ w = w' := by
  have HM : Hid (inPl a = if inB a 0 3 then _ else -1) := Lib.hid rfl
  cases h : inB a 0 3
  · rw [h] at HM
    go_enter Tryd.func80, Tryd.ntmps80
    go_wp2_with fail
    refine (spec_l1In _ _ _ _).mono ?_
    rintro e w1 ⟨rfl, rfl⟩
    rw [h]
    go_wp2
    go_ret
    exact ⟨by rw [HM.out]; rfl, rfl⟩
  · rw [h] at HM
    obtain ⟨h1, h2⟩ := inB_t h
    go_enter Tryd.func80, Tryd.ntmps80
    go_wp2_with fail
    refine (spec_l1In _ _ _ _).mono ?_
    rintro e w1 ⟨rfl, rfl⟩
    rw [h]
    go_wp2
    go_ret
    exact ⟨by rw [HM.out]; rfl, rfl⟩
theorem spec_OutPlace (a : Int) (w : World) : Calls Tryd.prog 81 #[.int .i64 a] w fun e w' => e = .returned (.int .i64 (outPl a)) ∧ w = w' := by
  have HM : Hid (outPl a = if inB a 0 3 then _ else -1) := Lib.hid rfl
  cases h : inB a 0 3
  · rw [h] at HM
    go_enter Tryd.func81, Tryd.ntmps81
    go_wp2_with fail
    refine (spec_l1In _ _ _ _).mono ?_
    rintro e w1 ⟨rfl, rfl⟩
    rw [h]
    go_wp2
    go_ret
    exact ⟨by rw [HM.out]; rfl, rfl⟩
  · rw [h] at HM
    obtain ⟨h1, h2⟩ := inB_t h
    go_enter Tryd.func81, Tryd.ntmps81
    go_wp2_with fail
    refine (spec_l1In _ _ _ _).mono ?_
    rintro e w1 ⟨rfl, rfl⟩
    rw [h]
    go_wp2
    go_ret
    exact ⟨by rw [HM.out]; rfl, rfl⟩
end Go.Proofs.YtmpcbkonelcceaaDoor

/- Interleave: the model. -/
namespace Go.Proofs.YtmpcbkonelcceaaDoor
open Go.RowKit
set_option linter.unusedVariables false

theorem nat_one (m : Nat) : ((m : Int) == 1) = decide (m = 1) := by
  by_cases h : m = 1
  · subst h; rfl
  · rw [decide_eq_false h]
    have h2 : ¬ ((m : Int) = 1) := by omega
    simpa using h2
theorem ret_val {x y : Int} (h : x = y) : Value.int .i64 x = Value.int .i64 y := by rw [h]
theorem spec_Interleave (a b c d : Int) (w : World) : Calls Tryd.prog 79 #[.int .i64 a, .int .i64 b, .int .i64 c, .int .i64 d] w fun e w' => e = .returned (.bool (inter a b c d)) ∧ Below w.heap.size w w' := by
  have own0 : Own .i64 3 (w.alloc (.cells #[.int .i64 a, .int .i64 b, .int .i64 c, .int .i64 d] 3)) w.heap.size (.slice (some ⟨w.heap.size, 0, none⟩) 4 4) [a, b, c, d] := own_lit w [a, b, c, d] 4 (Nat.le_refl _) (by decide) rfl
  have hb0 : Below w.heap.size w (w.alloc (.cells #[.int .i64 a, .int .i64 b, .int .i64 c, .int .i64 d] 3)) := (Below.refl _ _).alloc (Nat.le_refl _) _
  go_enter Tryd.func79, Tryd.ntmps79
  go_wp2
  go_loopw [10] (fun i wr => ∃ j : Nat, j ≤ 4 ∧ i = .int .i64 j ∧ okNs [a, b, c, d] j ∧ Own .i64 3 wr w.heap.size (.slice (some ⟨w.heap.size, 0, none⟩) 4 4) [a, b, c, d] ∧ Below w.heap.size w wr) (fun i _ => 4 - (intOf i).toNat)
  case atStart => exact ⟨0, by omega, rfl, fun j hj => absurd hj (by omega), own0, hb0⟩
  case round =>
    clear own0 hb0
    obtain ⟨j, hj, rfl, hok, hown, hbl⟩ := hrel
    by_cases hlt : j < 4
    · have HOK := Lib.hid hok
      clear hok
      go_wp2
      go_loopw [11] (fun i wr => ∃ k : Nat, k ≤ j ∧ i = .int .i64 k ∧ (∀ k', k' < k → [a, b, c, d].getD j 0 ≠ [a, b, c, d].getD k' 0) ∧ Own .i64 3 wr w.heap.size (.slice (some ⟨w.heap.size, 0, none⟩) 4 4) [a, b, c, d] ∧ Below w.heap.size w wr) (fun i _ => j - (intOf i).toNat)
      case atStart => exact ⟨0, by omega, rfl, fun j hj => absurd hj (by omega), hown, hbl⟩
      case round =>
        clear hown hbl
        obtain ⟨k, hk, rfl, hdi, hown, hbl⟩ := hrel
        by_cases hlt2 : k < j
        · have c1 := hown.cell j (by simpa using hlt)
          have c2 := hown.cell k (by simp; omega)
          have i1 : (0 : Int) ≤ (j : Int) := by omega
          have i2 : (j : Int) < (4 : Int) := by omega
          have i3 : (0 : Int) ≤ (k : Int) := by omega
          have i4 : (k : Int) < (4 : Int) := by omega
          by_cases he : [a, b, c, d].getD j 0 = [a, b, c, d].getD k 0
          · have HR := Lib.hid (inter_eq hlt2 hlt he)
            rw [← he] at c2
            clear hdi hown
            generalize [a, b, c, d].getD j 0 = x at *
            go_wp2
            go_quiet (fail)
            go_wp2
            go_ret
            exact ⟨by rw [HR.out]; rfl, belowN hbl _⟩
          · have HD : Hid (∀ k', k' < k + 1 → [a, b, c, d].getD j 0 ≠ [a, b, c, d].getD k' 0) := Lib.hid (fun k' h' => by
              by_cases e : k' = k
              · subst e; exact he
              · exact hdi k' (by omega))
            have HO := Lib.hid hown
            have e1 : ([a, b, c, d].getD j 0 == [a, b, c, d].getD k 0) = false := by simpa using he
            clear hdi hown he
            generalize [a, b, c, d].getD j 0 = x at *
            generalize [a, b, c, d].getD k 0 = y at *
            go_wp2
            go_quiet (fail)
            go_wp2
            go_roundw
            case rel => exact ⟨k + 1, by omega, by go_num, HD.out, HO.out, belowN hbl _⟩
            case measure => simp [intOf]; omega
        · obtain rfl : k = j := by omega
          have c1 := hown.cell k (by simpa using hlt)
          have i1 : (0 : Int) ≤ (k : Int) := by omega
          have i2 : (k : Int) < (4 : Int) := by omega
          cases hin : inB ([a, b, c, d].getD k 0) 0 7
          · have HR := Lib.hid (inter_out hlt hin)
            have HI := Lib.hid hin
            clear hdi hown hin
            generalize [a, b, c, d].getD k 0 = x at *
            go_wp2_with fail
            refine (spec_l1In _ _ _ _).mono ?_
            rintro e w1 ⟨rfl, rfl⟩
            rw [HI.out]
            go_wp2
            go_ret
            exact ⟨by rw [HR.out]; rfl, hbl⟩
          · have HS := Lib.hid (okNs_step HOK.out hin hdi)
            have HO := Lib.hid hown
            have HI := Lib.hid hin
            clear hdi hown hin
            generalize [a, b, c, d].getD k 0 = x at *
            go_wp2_with fail
            refine (spec_l1In _ _ _ _).mono ?_
            rintro e w1 ⟨rfl, rfl⟩
            rw [HI.out]
            go_wp2
            go_roundw
            case rel => exact ⟨k + 1, by omega, by go_num, HS.out, HO.out, hbl⟩
            case measure => simp [intOf]; omega
    · obtain rfl : j = 4 := by omega
      obtain ⟨⟨h0, h1, h2, h3⟩, n1, n2, n3, n4, n5, n6⟩ := okNs_four hok
      obtain ⟨a1, a2⟩ := inB_t h0
      obtain ⟨b1, b2⟩ := inB_t h1
      obtain ⟨c1, c2⟩ := inB_t h2
      obtain ⟨d1, d2⟩ := inB_t h3
      have HR := Lib.hid ((inter_four hok).trans (met_end a b c d).symm)
      clear hok h0 h1 h2 h3 hown
      go_wp2
      go_loopw [12, 13] (fun x y wr => ∃ p : Nat, 1 ≤ p ∧ (p : Int) ≤ (b - a) % 8 ∧ y = .int .i64 ((a + p) % 8) ∧ x = .int .i64 (met a c d p : Nat) ∧ Below w.heap.size w wr) (fun _ y _ => ((b - intOf y) % 8).toNat)
      case atStart =>
        refine ⟨1, by omega, by omega, by go_num, ?_, hbl⟩
        have e : met a c d 1 = 0 := by unfold met; rw [if_neg (by omega), if_neg (by omega)]
        rw [e]
        rfl
      case round =>
        clear hbl
        obtain ⟨p, hp1, hp2, rfl, rfl, hbl⟩ := hrel
        obtain ⟨q, hq⟩ : ∃ q, (a + (p : Int)) % 8 = q := ⟨_, rfl⟩
        have hm2 : met a c d p ≤ 2 := by unfold met; split <;> split <;> omega
        by_cases hqb : q = b
        · have hp : ((b - a) % 8).toNat = p := by omega
          rw [hp] at HR
          rw [hq]
          subst hqb
          have e0 : (q != q) = false := by simp
          clear hq hp
          generalize met a c d p = m at *
          go_wp2
          go_ret
          exact ⟨by rw [HR.out, ← nat_one]; rfl, hbl⟩
        · have hq1 : 0 ≤ q ∧ q ≤ 7 := by omega
          obtain ⟨q1, q2⟩ := hq1
          have e0 : (q != b) = true := by simpa using hqb
          have hp3 : (p : Int) + 1 ≤ (b - a) % 8 := by omega
          have HN : Hid ((q + 1) % 8 = (a + ((p + 1 : Nat) : Int)) % 8) := Lib.hid (by omega)
          have HM2 : Hid (((b - (q + 1) % 8) % 8).toNat < ((b - q) % 8).toNat) := Lib.hid (by omega)
          have HP3 := Lib.hid hp3
          have HB := Lib.hid hbl
          by_cases hqc : q = c
          · have HM : Hid (met a c d (p + 1) = met a c d p + 1) := Lib.hid (by unfold met; (repeat' split) <;> omega)
            have e1 : (q == c) = true := by simpa using hqc
            rw [hq]
            clear hq hp2 hp3 hqb hqc n1 n2 n3 n4 n5 n6 hbl
            generalize met a c d p = m at *
            go_wp2
            go_roundw
            case rel => exact ⟨p + 1, by omega, by have := HP3.out; omega, ret_val HN.out, by rw [HM.out]; go_num, HB.out⟩
            case measure => simp only [intOf]; exact HM2.out
          · have e1 : (q == c) = false := by simpa using hqc
            by_cases hqd : q = d
            · have HM : Hid (met a c d (p + 1) = met a c d p + 1) := Lib.hid (by unfold met; (repeat' split) <;> omega)
              have e2 : (q == d) = true := by simpa using hqd
              rw [hq]
              clear hq hp2 hp3 hqb hqc hqd n1 n2 n3 n4 n5 n6 hbl
              generalize met a c d p = m at *
              go_wp2
              go_roundw
              case rel => exact ⟨p + 1, by omega, by have := HP3.out; omega, ret_val HN.out, by rw [HM.out]; go_num, HB.out⟩
              case measure => simp only [intOf]; exact HM2.out
            · have HM : Hid (met a c d (p + 1) = met a c d p) := Lib.hid (by unfold met; (repeat' split) <;> omega)
              have e2 : (q == d) = false := by simpa using hqd
              rw [hq]
              clear hq hp2 hp3 hqb hqc hqd n1 n2 n3 n4 n5 n6 hbl
              generalize met a c d p = m at *
              go_wp2
              go_roundw
              case rel => exact ⟨p + 1, by omega, by have := HP3.out; omega, ret_val HN.out, by rw [HM.out], HB.out⟩
              case measure => simp only [intOf]; exact HM2.out
end Go.Proofs.YtmpcbkonelcceaaDoor

/- What a law's walk knows of the slices that are alive; the laws' helpers in these words. -/
namespace Go.Proofs.YtmpcbkonelcceaaDoor
open Go.RowKit
set_option linter.unusedVariables false

/-- a slice that may be read: these integers, in memory that is there. -/
structure Sl (k : IntKind) (w : World) (A : Option Addr) (n c : Nat) (zs : List Int) : Prop where
  ints : IntsAt k w w.heap.size A n zs
  bare : A = none → n = 0 ∧ c = 0
  small : n ≤ 1099511627776
  cap : n ≤ c ∧ c ≤ maxLen
  wf : ∀ z ∈ zs, (Lit.int k z).wf = true
theorem Sl.len {k : IntKind} {w : World} {A : Option Addr} {n c : Nat} {zs : List Int} (h : Sl k w A n c zs) : zs.length = n := h.ints.1
theorem IntsAt.up {k : IntKind} {w : World} {B B' : Nat} {A : Option Addr} {n : Nat} {zs : List Int} (h : IntsAt k w B A n zs) (hB : B ≤ B') : IntsAt k w B' A n zs :=
  ⟨h.1, fun hn => by obtain ⟨ad, e, hb, hc⟩ := h.2 hn; exact ⟨ad, e, by omega, hc⟩⟩
theorem Sl.below {k : IntKind} {w w' : World} {A : Option Addr} {n c : Nat} {zs : List Int} (h : Sl k w A n c zs) (hb : Below w.heap.size w w') : Sl k w' A n c zs :=
  ⟨(h.ints.keep fun _ hp => hb.cell hp).up hb.size, h.bare, h.small, h.cap, h.wf⟩
theorem Sl.u8 {w : World} {A : Option Addr} {n c : Nat} {zs : List Int} (h : Sl .u8 w A n c zs) : ∀ z ∈ zs, 0 ≤ z ∧ z ≤ 255 := fun z hz => by
  have h' : (decide (IntKind.u8.min ≤ z) && decide (z ≤ IntKind.u8.max)) = true := h.wf z hz
  simp only [Bool.and_eq_true, decide_eq_true_eq] at h'
  exact h'
theorem u8_wf {z : Int} (h : 0 ≤ z ∧ z ≤ 255) : (Lit.int .u8 z).wf = true := by
  show (decide (IntKind.u8.min ≤ z) && decide (z ≤ IntKind.u8.max)) = true
  simp only [Bool.and_eq_true, decide_eq_true_eq]
  exact h
theorem i64_wf {z : Int} (h : -9223372036854775808 ≤ z ∧ z ≤ 9223372036854775807) : (Lit.int .i64 z).wf = true := by
  show (decide (IntKind.i64.min ≤ z) && decide (z ≤ IntKind.i64.max)) = true
  simp only [Bool.and_eq_true, decide_eq_true_eq]
  exact h
/-- a slice of the call's own, in a row between two block numbers. -/
structure Ow (k : IntKind) (E : TypeId) (w : World) (lo hi : Nat) (v : Value) (zs : List Int) : Prop where
  own : Own k E w lo v zs
  lt : ∀ g, v.ownBlock = some g → g < hi
  top : hi ≤ w.heap.size
theorem Ow.new {k : IntKind} {E : TypeId} {w : World} {lo : Nat} {v : Value} {zs : List Int} (h : Own k E w lo v zs) : Ow k E w lo w.heap.size v zs := ⟨h, fun g e => (h.block g e).2, Nat.le_refl _⟩
theorem Ow.below {k : IntKind} {E : TypeId} {w w' : World} {lo hi : Nat} {v : Value} {zs : List Int} (h : Ow k E w lo hi v zs) (hb : Below w.heap.size w w') : Ow k E w' lo hi v zs := ⟨h.own.below hb, h.lt, Nat.le_trans h.top hb.size⟩
theorem Ow.ints {k : IntKind} {E : TypeId} {w : World} {lo hi : Nat} {A : Option Addr} {n c : Nat} {zs : List Int} (h : Ow k E w lo hi (.slice A n c) zs) : IntsAt k w w.heap.size A n zs := h.own.ints
theorem Own.nilcap' {k : IntKind} {E : TypeId} {w : World} {lo : Nat} {A : Option Addr} {n c : Nat} {zs : List Int} (h : Own k E w lo (.slice A n c) zs) : A = none → n = 0 ∧ c = 0 := by
  rintro rfl
  rcases h.shape with ⟨e, rfl⟩ | ⟨g, cap, e, _⟩
  · injection e with e1 e2 e3; exact ⟨e2, e3⟩
  · injection e with e1; cases e1
theorem Own.cap {k : IntKind} {E : TypeId} {w : World} {lo : Nat} {A : Option Addr} {n c : Nat} {zs : List Int} (h : Own k E w lo (.slice A n c) zs) : n ≤ c ∧ c ≤ maxLen := by
  have hn := h.len
  rcases h.shape with ⟨e, rfl⟩ | ⟨g, cap, e, _, _, h1, h2⟩
  · injection e with e1 e2 e3; subst e3; subst e2; exact ⟨Nat.le_refl _, by decide⟩
  · injection e with e1 e2 e3; subst e3; exact ⟨by omega, h2⟩
theorem Ow.sl {k : IntKind} {E : TypeId} {w : World} {lo hi : Nat} {A : Option Addr} {n c : Nat} {zs : List Int} (h : Ow k E w lo hi (.slice A n c) zs) (hn : n ≤ 1099511627776) (hw : ∀ z ∈ zs, (Lit.int k z).wf = true) : Sl k w A n c zs := ⟨h.ints, h.own.nilcap', hn, h.own.cap, hw⟩
/-- Rows between two block numbers alone have been written. -/
structure Part (lo hi : Nat) (w w' : World) : Prop where
  os : w'.os = w.os
  tape : w'.tape = w.tape
  output : w'.output = w.output
  size : w.heap.size ≤ w'.heap.size
  block : ∀ i, i < w.heap.size → (i < lo ∨ hi ≤ i) → w'.heap[i]? = w.heap[i]?
theorem Part.below {lo hi : Nat} {w w' : World} (h : Part lo hi w w') {B : Nat} (hB : B ≤ lo) (hs : B ≤ w.heap.size) : Below B w w' := ⟨h.os, h.tape, h.output, h.size, fun i hi => h.block i (by omega) (.inl (by omega))⟩
theorem Ow.part {k : IntKind} {E : TypeId} {w w' : World} {lo hi l h' : Nat} {v : Value} {zs : List Int} (h : Ow k E w lo hi v zs) (hp : Part l h' w w') (hd : hi ≤ l ∨ h' ≤ lo) : Ow k E w' lo hi v zs := by
  refine ⟨⟨h.own.1, ?_⟩, h.lt, Nat.le_trans h.top hp.size⟩
  rcases h.own.2 with h2 | ⟨g, cap, cur, rfl, hl, hg, r⟩
  · exact .inl h2
  · have hlt := h.lt g rfl
    have htop := h.top
    exact .inr ⟨g, cap, cur, rfl, hl, (hp.block g (by omega) (by omega)).trans hg, r⟩
theorem marked_i64 (A : Option Addr) (n c lo hi s : Nat) (zs : List Int) (w : World) (h : Ow .i64 3 w lo hi (.slice A n c) zs) (hn : n ≤ 4398046511104) (hs : s ≤ 70368744177664) :
    Calls Tryd.prog 22 #[.slice A n c, .int .i64 s] w fun e w' => e = .returned (.int .i64 ((s + n : Nat) : Int)) ∧ Ow .i64 3 w' lo hi (.slice A n c) (marks .i64 s n) ∧ Part lo hi w w' := by
  refine (mark_i64 A n c lo s zs w h.own hn hs).mono fun e w' ⟨he, ho, hg⟩ => ⟨he, ⟨ho, h.lt, Nat.le_trans h.top hg.size⟩, ⟨hg.os, hg.tape, hg.output, hg.size, fun i hi' hd => hg.block i hi' fun e => ?_⟩⟩
  have h1 := h.lt i e.symm
  have h2 := (h.own.block i e.symm).1
  omega
theorem eqs_i64 (A : Option Addr) (n c : Nat) (zs : List Int) (A2 : Option Addr) (n2 c2 : Nat) (w : World) (h : IntsAt .i64 w w.heap.size A n zs) (h2 : IntsAt .i64 w w.heap.size A2 n2 zs) (hn : n ≤ 4398046511104) (hn2 : n2 ≤ 4398046511104) :
    Calls Tryd.prog 21 #[.slice A n c, .slice A2 n2 c2] w fun e w' => e = .returned (.bool true) ∧ Below w.heap.size w w' :=
  (eq_i64 A n c _ zs A2 n2 c2 _ zs w h h2 hn hn2).mono fun e w' ⟨he, hb⟩ => ⟨by rw [he, decide_eq_true rfl], hb⟩
end Go.Proofs.YtmpcbkonelcceaaDoor

/- Rows of paths: the laws' helpers. -/
namespace Go.Proofs.YtmpcbkonelcceaaDoor
open Go.RowKit
set_option linter.unusedVariables false

/-- the cells of a list of paths. -/
def pcells (ps : List Pth) : List Value := ps.flatMap Pth.cells
theorem pcells_length (ps : List Pth) : (pcells ps).length = ps.length * 4 := flat_length (f := Pth.cells) (fun _ => rfl) ps
theorem pcells_take {ps : List Pth} {k : Nat} {p : Pth} (h : ps[k]? = some p) : pcells (ps.take (k + 1)) = pcells (ps.take k) ++ p.cells := by
  unfold pcells
  rw [List.take_add_one, h, List.flatMap_append]
  simp
theorem pcells_one (ps : List Pth) : ∀ u ∈ pcells ps, u.oneCell' = true := by
  intro u hu
  obtain ⟨p, _, hp⟩ := List.mem_flatMap.1 hu
  simp only [Pth.cells, List.mem_cons, List.not_mem_nil, or_false] at hp
  rcases hp with rfl | rfl | rfl | rfl <;> rfl
/-- one path stored behind those before it. -/
theorem pcells_put {ps : List Pth} {zs : List Value} {k : Nat} {p : Pth} (h : ps[k]? = some p) (hz : k * 4 + 4 ≤ zs.length) :
    ((((pcells (ps.take k) ++ zs.drop (k * 4)).set (k * 4) (.int .i64 p.id)).set (k * 4 + 1) (.int .i64 p.kind)).set (k * 4 + 2) (.int .i64 p.frm)).set (k * 4 + 3) (.int .i64 p.to) = pcells (ps.take (k + 1)) ++ zs.drop ((k + 1) * 4) := by
  obtain ⟨z0, z1, z2, z3, hd⟩ := drop4 hz
  have hk := (List.getElem?_eq_some_iff.1 h).1
  rw [hd, set4 (by rw [pcells_length, List.length_take]; omega), pcells_take h]
  simp [Pth.cells, Nat.add_mul]
/-- A slice value that holds these paths, in a block below B. -/
def PthsAt (w : World) (B : Nat) (A : Option Addr) (n : Nat) (ps : List Pth) : Prop := ps.length = n ∧ CellsAt w B A (n * 4) (pcells ps)
theorem PthsAt.keep {w w' : World} {B : Nat} {A : Option Addr} {n : Nat} {ps : List Pth} (h : PthsAt w B A n ps) (hk : ∀ p : Addr, p.block < B → w'.cell? p = w.cell? p) : PthsAt w' B A n ps := ⟨h.1, h.2.keep hk⟩
theorem PthsAt.below {w w' : World} {B : Nat} {A : Option Addr} {n : Nat} {ps : List Pth} (h : PthsAt w B A n ps) (hb : Below B w w') : PthsAt w' B A n ps := ⟨h.1, h.2.below hb⟩
theorem PthsAt.up {w : World} {B B' : Nat} {A : Option Addr} {n : Nat} {ps : List Pth} (h : PthsAt w B A n ps) (hB : B ≤ B') : PthsAt w B' A n ps := ⟨h.1, h.2.up hB⟩
/-- a path lies at q. -/
structure PthAt (w : World) (q : Addr) (p : Pth) : Prop where
  c0 : w.cell? q = some (.int .i64 p.id)
  c1 : w.cell? ⟨q.block, q.off + 1, none⟩ = some (.int .i64 p.kind)
  c2 : w.cell? ⟨q.block, q.off + 2, none⟩ = some (.int .i64 p.frm)
  c3 : w.cell? ⟨q.block, q.off + 3, none⟩ = some (.int .i64 p.to)
theorem PthAt.keep {w w' : World} {q : Addr} {p : Pth} (h : PthAt w q p) (e : w'.heap[q.block]? = w.heap[q.block]?) : PthAt w' q p :=
  ⟨(World.cell?_of_block e).trans h.c0, (World.cell?_of_block (a := ⟨q.block, q.off + 1, none⟩) e).trans h.c1, (World.cell?_of_block (a := ⟨q.block, q.off + 2, none⟩) e).trans h.c2, (World.cell?_of_block (a := ⟨q.block, q.off + 3, none⟩) e).trans h.c3⟩
theorem PthAt.below {w w' : World} {q : Addr} {p : Pth} {B : Nat} (h : PthAt w q p) (hb : Below B w w') (hB : q.block < B) : PthAt w' q p := h.keep (hb.block _ hB)
theorem add_plus (q : Addr) (i : Nat) (h : 0 < i) : q.add i = ⟨q.block, q.off + i, none⟩ := by unfold Addr.add; rw [if_neg (by omega)]
theorem PthsAt.at {w : World} {B : Nat} {A : Option Addr} {n : Nat} {ps : List Pth} (h : PthsAt w B A n ps) {k : Nat} (hk : k < n) : ∃ ad p, A = some ad ∧ (ad.add (k * 4)).block < B ∧ ps[k]? = some p ∧ PthAt w (ad.add (k * 4)) p := by
  obtain ⟨hl, _, hc⟩ := h
  obtain ⟨ad, e, hb, hc⟩ := hc (by omega)
  have hp : ps[k]? = some ps[k] := List.getElem?_eq_getElem (by omega)
  have hg := fun i (hi : i < 4) => flat_get (f := Pth.cells) (fun _ => rfl) ps k i _ hp hi
  have ha := fun i (hi : 0 < i) => (add_add ad (k * 4) i).symm.trans (add_plus _ i hi)
  refine ⟨ad, ps[k], e, by rw [add_block]; exact hb, hp, hc _ _ (hg 0 (by decide)), ?_, ?_, ?_⟩
  · rw [← ha 1 (by decide)]; exact hc _ _ (hg 1 (by decide))
  · rw [← ha 2 (by decide)]; exact hc _ _ (hg 2 (by decide))
  · rw [← ha 3 (by decide)]; exact hc _ _ (hg 3 (by decide))
theorem info_pth : (Tryd.prog.info? 50).map (fun i => (i.zero, i.size, i.bytes)) = some (some (.agg #[.int .i64 0, .int .i64 0, .int .i64 0, .int .i64 0]), 4, 32) := by kernel_rfl
theorem made_pth (n : Nat) : (madeCells (Value.agg #[Value.int .i64 0, Value.int .i64 0, Value.int .i64 0, Value.int .i64 0]).cells (n * 4)).toList = pcells (List.replicate n ⟨0, 0, 0, 0⟩) := by
  have h : (Value.agg #[Value.int .i64 0, Value.int .i64 0, Value.int .i64 0, Value.int .i64 0]).cells = #[Value.int .i64 0, Value.int .i64 0, Value.int .i64 0, Value.int .i64 0] := rfl
  rw [h]
  apply List.ext_getElem?
  intro i
  have hr : (pcells (List.replicate n ⟨0, 0, 0, 0⟩)) = List.replicate (n * 4) (Value.int .i64 0) := by
    induction n with
    | zero => rfl
    | succ n ih =>
      have e : (n + 1) * 4 = n * 4 + 1 + 1 + 1 + 1 := by omega
      unfold pcells at ih ⊢
      rw [List.replicate_succ, List.flatMap_cons, ih, e, List.replicate_succ, List.replicate_succ, List.replicate_succ, List.replicate_succ]
      rfl
  rw [hr]
  simp only [madeCells, Array.toList_map, List.getElem?_map, List.getElem?_replicate]
  by_cases hi : i < n * 4
  · have h4 : i % 4 = 0 ∨ i % 4 = 1 ∨ i % 4 = 2 ∨ i % 4 = 3 := by omega
    rcases h4 with h4 | h4 | h4 | h4 <;> simp [hi, h4]
  · simp [hi]
theorem law_toPath (p : Pth) (w : World) : Calls Tryd.prog 31 #[p.val] w fun e w' => e = .returned p.val ∧ Below w.heap.size w w' := by
  obtain ⟨a, b, c, d⟩ := p
  simp only [Pth.val]
  go_enter Tryd.func31, Tryd.ntmps31
  go_wp2
  refine bodyPost_ret (by rw [results_cell rfl]; go_simp; try rfl) rfl ?_
  exact ⟨rfl, ((((Below.refl _ _).alloc (Nat.le_refl _) _).alloc (by simp) _).alloc (by simp; omega) _)⟩
theorem law_toPathS (A : Option Addr) (n c B : Nat) (ps : List Pth) (w : World) (h : PthsAt w B A n ps) (hB : B ≤ w.heap.size) (hn : n ≤ 4294967296) :
    Calls Tryd.prog 10 #[.slice A n c] w fun e w' => e = .returned (.slice (some ⟨w.heap.size, 0, none⟩) n n) ∧ w'.ownsRow w.heap.size 50 4 (.slice (some ⟨w.heap.size, 0, none⟩) n n) n (pcells ps) ∧ Below w.heap.size w w' := by
  have hl := h.1
  go_enter Tryd.func10, Tryd.ntmps10
  go_wp2_with ((with_reducible show wpList _ _ _ _ _ _); refine wpList_mkR rfl _ _ _ rfl 50 _ 4 _ Tryd.underlying30 info_pth (by decide) (n : Int) (n : Int) n rfl rfl rfl rfl (by omega) ?_; intro w1 hown hgrow)
  go_loopw [4] (fun i wr => ∃ k : Nat, k ≤ n ∧ i = .int .i64 k ∧ wr.ownsRow w.heap.size 50 4 (.slice (some ⟨w.heap.size, 0, none⟩) n n) n (pcells (ps.take k) ++ (pcells (List.replicate n ⟨0, 0, 0, 0⟩)).drop (k * 4)) ∧ Below w.heap.size w wr) (fun i _ => n - (intOf i).toNat)
  case atStart => exact ⟨0, Nat.zero_le _, rfl, by rw [made_pth] at hown; simpa [pcells] using hown, below_grown hgrow⟩
  case round =>
    obtain ⟨k, hk, rfl, hown, hbl⟩ := hrel
    by_cases hlt : k < n
    · obtain ⟨ad, p, rfl, hab, hp, hq⟩ := h.at hlt
      obtain ⟨c0, c1, c2, c3⟩ := hq.below hbl (by omega)
      go_wp2_with fail
      refine (law_toPath p _).mono ?_
      rintro e w2 ⟨rfl, hb2⟩
      have hown2 := ownr_below hown hb2
      obtain ⟨x0, hx0⟩ := ownr_some hown2 (j := k * 4) (by omega)
      obtain ⟨x1, hx1⟩ := ownr_some hown2 (j := k * 4 + 1) (by omega)
      obtain ⟨x2, hx2⟩ := ownr_some hown2 (j := k * 4 + 2) (by omega)
      obtain ⟨x3, hx3⟩ := ownr_some hown2 (j := k * 4 + 3) (by omega)
      have f0 := World.ownsRow.frozenAt hown2
      have hst := (World.ownsRow.stored (World.ownsRow.stored (World.ownsRow.stored (World.ownsRow.stored hown2 (k * 4) (.int .i64 p.id)).1 (k * 4 + 1) (.int .i64 p.kind)).1 (k * 4 + 2) (.int .i64 p.frm)).1 (k * 4 + 3) (.int .i64 p.to)).1
      rw [pcells_put hp (by rw [pcells_length, List.length_replicate]; omega)] at hst
      have HS := Lib.hid hst
      have HB := Lib.hid (hbl.trans (hb2.mono hbl.size))
      simp only [Pth.val]
      clear hown hown2 hbl hb2 hst hq
      go_wp2
      go_roundw
      case rel => exact ⟨k + 1, by omega, by go_num, HS.out, (((HB.out.setCell (Nat.le_refl _) _).setCell (Nat.le_refl _) _).setCell (Nat.le_refl _) _).setCell (Nat.le_refl _) _⟩
      case measure => simp [intOf]; omega
    · obtain rfl : k = n := by omega
      rw [List.take_of_length_le (by omega), List.drop_of_length_le (by rw [pcells_length, List.length_replicate]; exact Nat.le_refl _), List.append_nil] at hown
      go_wp2
      go_ret
      exact ⟨rfl, hown, hbl⟩
theorem law_eqPath (p q : Pth) (w : World) : Calls Tryd.prog 36 #[p.val, q.val] w fun e w' => e = .returned (.bool (decide (p = q))) ∧ Below w.heap.size w w' := by
  obtain ⟨a, b, c, d⟩ := p
  obtain ⟨a', b', c', d'⟩ := q
  simp only [Pth.val, Pth.mk.injEq]
  have hb0 := ((Below.refl w.heap.size w).alloc (Nat.le_refl _) (.cells #[.int .i64 a, .int .i64 b, .int .i64 c, .int .i64 d] 50)).alloc (by simp) (.cells #[.int .i64 a', .int .i64 b', .int .i64 c', .int .i64 d'] 50)
  have HB := Lib.hid hb0
  clear hb0
  by_cases h0 : a = a'
  rotate_left
  · have e0 : (a != a') = true := by simpa using h0
    go_enter Tryd.func36, Tryd.ntmps36
    go_wp2
    go_ret
    exact ⟨by simp [h0], HB.out⟩
  subst h0
  by_cases h1 : b = b'
  rotate_left
  · have e0 : (b != b') = true := by simpa using h1
    go_enter Tryd.func36, Tryd.ntmps36
    go_wp2
    go_ret
    exact ⟨by simp [h1], HB.out⟩
  subst h1
  by_cases h2 : c = c'
  rotate_left
  · have e0 : (c != c') = true := by simpa using h2
    go_enter Tryd.func36, Tryd.ntmps36
    go_wp2
    go_ret
    exact ⟨by simp [h2], HB.out⟩
  subst h2
  by_cases h3 : d = d'
  rotate_left
  · have e0 : (d != d') = true := by simpa using h3
    go_enter Tryd.func36, Tryd.ntmps36
    go_wp2
    go_ret
    exact ⟨by simp [h3], HB.out⟩
  subst h3
  go_enter Tryd.func36, Tryd.ntmps36
  go_wp2
  go_ret
  exact ⟨by simp, HB.out⟩
theorem law_eqPathS (A : Option Addr) (n c B : Nat) (ps : List Pth) (A2 : Option Addr) (n2 c2 B2 : Nat) (qs : List Pth) (w : World) (h : PthsAt w B A n ps) (h2 : PthsAt w B2 A2 n2 qs) (hB : B ≤ w.heap.size) (hB2 : B2 ≤ w.heap.size) (hn : n ≤ 4294967296) (hn2 : n2 ≤ 4294967296) :
    Calls Tryd.prog 14 #[.slice A n c, .slice A2 n2 c2] w fun e w' => e = .returned (.bool (decide (ps = qs))) ∧ Below w.heap.size w w' := by
  have hl := h.1
  have hl2 := h2.1
  by_cases hne : n = n2
  · subst hne
    go_enter Tryd.func14, Tryd.ntmps14
    go_wp2
    go_loopw [5] (fun i wr => ∃ k : Nat, k ≤ n ∧ i = .int .i64 k ∧ ps.take k = qs.take k ∧ Below w.heap.size w wr) (fun i _ => n - (intOf i).toNat)
    case atStart => exact ⟨0, Nat.zero_le _, rfl, by simp, Below.refl _ _⟩
    case round =>
      obtain ⟨k, hk, rfl, hsame, hbl⟩ := hrel
      by_cases hlt : k < n
      · obtain ⟨ad, p, rfl, hab, hp, hq⟩ := h.at hlt
        obtain ⟨ad2, q, rfl, hab2, hp2, hq2⟩ := h2.at hlt
        replace hq := hq.below hbl (by omega)
        replace hq2 := hq2.below hbl (by omega)
        have i1 : (0 : Int) ≤ (k : Int) := by omega
        have i2 : (k : Int) < (n : Int) := by omega
        have hsz := hbl.size
        go_wp2
        go_region_held3 (fun W' => W'.cell? (ad.add (k * 4)) = some (.int .i64 p.id) ∧ W'.cell? ⟨(ad.add (k * 4)).block, (ad.add (k * 4)).off + 1, none⟩ = some (.int .i64 p.kind) ∧ W'.cell? ⟨(ad.add (k * 4)).block, (ad.add (k * 4)).off + 2, none⟩ = some (.int .i64 p.frm) ∧ W'.cell? ⟨(ad.add (k * 4)).block, (ad.add (k * 4)).off + 3, none⟩ = some (.int .i64 p.to) ∧
            W'.cell? (ad2.add (k * 4)) = some (.int .i64 q.id) ∧ W'.cell? ⟨(ad2.add (k * 4)).block, (ad2.add (k * 4)).off + 1, none⟩ = some (.int .i64 q.kind) ∧ W'.cell? ⟨(ad2.add (k * 4)).block, (ad2.add (k * 4)).off + 2, none⟩ = some (.int .i64 q.frm) ∧ W'.cell? ⟨(ad2.add (k * 4)).block, (ad2.add (k * 4)).off + 3, none⟩ = some (.int .i64 q.to))
          (first | exact ⟨hq.c0, hq.c1, hq.c2, hq.c3, hq2.c0, hq2.c1, hq2.c2, hq2.c3⟩ | exact ⟨hr.c0, hr.c1, hr.c2, hr.c3, hr2.c0, hr2.c1, hr2.c2, hr2.c3⟩ | fail "keep")
          (first
            | (go_at_call 36; refine (law_eqPath p q _).mono ?_; rintro e w3 ⟨rfl, hb3⟩; have hb3' : Below wr.heap.size wr w3 := below_undrew hb3; have hr := hq.below hb3' (by omega); have hr2 := hq2.below hb3' (by omega)))
        have HB := Lib.hid (hbl.trans (hb3'.mono hsz))
        clear hq hq2 hr hr2 hb3 hb3' hbl
        by_cases hpq : p = q
        · have HT : Hid (ps.take (k + 1) = qs.take (k + 1)) := Lib.hid (by rw [List.take_add_one, List.take_add_one, hsame, hp, hp2, hpq])
          rw [decide_eq_true hpq]
          clear hsame hp hp2
          go_wp2
          go_roundw
          case rel => exact ⟨k + 1, by omega, by go_num, HT.out, HB.out⟩
          case measure => simp [intOf]; omega
        · have HN : Hid (decide (ps = qs) = false) := Lib.hid (by rw [decide_eq_false_iff_not]; rintro rfl; rw [hp] at hp2; exact hpq (Option.some.inj hp2))
          rw [decide_eq_false hpq]
          clear hsame hp hp2
          go_wp2
          go_ret
          exact ⟨by rw [HN.out]; rfl, HB.out⟩
      · obtain rfl : k = n := by omega
        have HN : Hid (decide (ps = qs) = true) := Lib.hid (by rw [decide_eq_true_eq]; rwa [List.take_of_length_le (by omega), List.take_of_length_le (by omega)] at hsame)
        go_wp2
        go_ret
        exact ⟨by rw [HN.out]; rfl, hbl⟩
  · have HN : Hid (decide (ps = qs) = false) := Lib.hid (by rw [decide_eq_false_iff_not]; rintro rfl; omega)
    go_enter Tryd.func14, Tryd.ntmps14
    go_wp2
    go_ret
    exact ⟨by rw [HN.out]; rfl, Below.refl _ _⟩
theorem law_szPathS (A : Option Addr) (n c : Nat) (w : World) (hn : n ≤ 9223372036854775807) :
    Calls Tryd.prog 7 #[.slice A n c, .int .i64 1048576] w fun e w' => e = .returned (.int .i64 (if n ≤ 1048576 then 1048576 - (n : Int) else -1)) ∧ w = w' := by
  by_cases h : n ≤ 1048576
  · rw [if_pos h]
    go_enter Tryd.func7, Tryd.ntmps7
    go_wp2
    go_ret
    exact ⟨rfl, rfl⟩
  · rw [if_neg h]
    go_enter Tryd.func7, Tryd.ntmps7
    go_wp2
    go_ret
    exact ⟨rfl, rfl⟩
theorem law_markPathS (A : Option Addr) (n c lo s : Nat) (vs : List Value) (w : World) (h : w.ownsRow lo 50 4 (.slice A n c) n vs) (hn : n ≤ 4294967296) (hs : s ≤ 70368744177664) :
    Calls Tryd.prog 15 #[.slice A n c, .int .i64 s] w fun e w' => e = .returned (.int .i64 ((s + n * 4 : Nat) : Int)) ∧ w.grownBy w' (Value.ownBlock (.slice A n c)) := by
  go_enter Tryd.func15, Tryd.ntmps15
  go_wp2
  go_loopw [1, 5] (fun x i wr => ∃ k : Nat, k ≤ n ∧ i = .int .i64 k ∧ x = .int .i64 ((s + k * 4 : Nat) : Int) ∧ (∃ vs', wr.ownsRow lo 50 4 (.slice A n c) n vs') ∧ w.grownBy wr (Value.ownBlock (.slice A n c))) (fun _ i _ => n - (intOf i).toNat)
  case atStart => exact ⟨0, Nat.zero_le _, rfl, by simp, ⟨vs, h⟩, World.grownBy.refl _ _⟩
  case round =>
    obtain ⟨k, hk, rfl, rfl, ⟨vs', hown⟩, hbl⟩ := hrel
    by_cases hlt : k < n
    · rcases ownr_shape hown with ⟨e, he⟩ | ⟨g, cap, e, hg, hgs, _⟩
      · omega
      injection e with e1 _ e3
      obtain rfl := e1
      obtain ⟨x0, hx0⟩ := ownr_some hown (j := k * 4) (by omega)
      obtain ⟨x1, hx1⟩ := ownr_some hown (j := k * 4 + 1) (by omega)
      obtain ⟨x2, hx2⟩ := ownr_some hown (j := k * 4 + 2) (by omega)
      obtain ⟨x3, hx3⟩ := ownr_some hown (j := k * 4 + 3) (by omega)
      have f0 := World.ownsRow.frozenAt hown
      have hst := (World.ownsRow.stored (World.ownsRow.stored (World.ownsRow.stored (World.ownsRow.stored hown (k * 4) (.int .i64 ((s : Int) + (k : Int) * 4))).1 (k * 4 + 1) (.int .i64 ((s : Int) + (k : Int) * 4 + 1))).1 (k * 4 + 2) (.int .i64 ((s : Int) + (k : Int) * 4 + 1 + 1))).1 (k * 4 + 3) (.int .i64 ((s : Int) + (k : Int) * 4 + 1 + 1 + 1))).1
      have HS := Lib.hid hst
      have HG := Lib.hid hbl
      clear hown hbl hst
      go_wp2
      go_roundw
      case rel => exact ⟨k + 1, by omega, by go_num, by go_num, ⟨_, HS.out⟩, only_setCell (only_setCell (only_setCell (only_setCell HG.out _ _) _ _) _ _) _ _⟩
      case measure => simp [intOf]; omega
    · obtain rfl : k = n := by omega
      go_wp2
      go_ret
      exact ⟨rfl, hbl⟩
end Go.Proofs.YtmpcbkonelcceaaDoor

/- Chapter 5's model. -/
namespace Go.Proofs.YtmpcbkonelcceaaDoor
open Go.RowKit
set_option linter.unusedVariables false

/-- a path that lies at a block's head. -/
theorem pth_head {w : World} {g : Nat} {p : Pth} (h : PthAt w ⟨g, 0, none⟩ p) : w.cell? ⟨g, 0, none⟩ = some (.int .i64 p.id) ∧ w.cell? ⟨g, 1, none⟩ = some (.int .i64 p.kind) ∧ w.cell? ⟨g, 2, none⟩ = some (.int .i64 p.frm) ∧ w.cell? ⟨g, 3, none⟩ = some (.int .i64 p.to) := ⟨h.c0, h.c1, h.c2, h.c3⟩
theorem heap_size_alloc' (w : World) (o : Obj) : (w.alloc o).heap.size = w.heap.size + 1 := by simp
theorem pth_of_block {w : World} {g : Nat} {p : Pth} {T : TypeId} {fr : Nat × Nat} (h : w.heap[g]? = some (.cells #[.int .i64 p.id, .int .i64 p.kind, .int .i64 p.frm, .int .i64 p.to] T fr)) : PthAt w ⟨g, 0, none⟩ p :=
  ⟨by rw [cell_of_row w g 0 _ T fr h]; rfl, by rw [cell_of_row w g _ _ T fr h]; rfl, by rw [cell_of_row w g _ _ T fr h]; rfl, by rw [cell_of_row w g _ _ T fr h]; rfl⟩
theorem boxed_one {w w1 : World} {p : Pth} {T : TypeId} (hb : Below (w.alloc (.cells #[.int .i64 p.id, .int .i64 p.kind, .int .i64 p.frm, .int .i64 p.to] T)).heap.size (w.alloc (.cells #[.int .i64 p.id, .int .i64 p.kind, .int .i64 p.frm, .int .i64 p.to] T)) w1) :
    PthAt w1 ⟨w.heap.size, 0, none⟩ p ∧ w.heap.size + 1 ≤ w1.heap.size ∧ Below w.heap.size w w1 := by
  have hs := hb.size
  rw [heap_size_alloc'] at hs
  exact ⟨pth_of_block ((hb.block _ (by rw [heap_size_alloc']; omega)).trans (heap_alloc_new w _)), hs, ((Below.refl _ _).alloc (Nat.le_refl _) _).trans (hb.mono (by rw [heap_size_alloc']; omega))⟩
theorem boxed_two {w w1 : World} {p q : Pth} {T T2 : TypeId} (hb : Below ((w.alloc (.cells #[.int .i64 p.id, .int .i64 p.kind, .int .i64 p.frm, .int .i64 p.to] T)).alloc (.cells #[.int .i64 q.id, .int .i64 q.kind, .int .i64 q.frm, .int .i64 q.to] T2)).heap.size ((w.alloc (.cells #[.int .i64 p.id, .int .i64 p.kind, .int .i64 p.frm, .int .i64 p.to] T)).alloc (.cells #[.int .i64 q.id, .int .i64 q.kind, .int .i64 q.frm, .int .i64 q.to] T2)) w1) :
    PthAt w1 ⟨w.heap.size, 0, none⟩ p ∧ PthAt w1 ⟨w.heap.size + 1, 0, none⟩ q ∧ w.heap.size + 2 ≤ w1.heap.size ∧ Below w.heap.size w w1 := by
  have hs := hb.size
  rw [heap_size_alloc', heap_size_alloc'] at hs
  obtain ⟨p0, p1, p2, p3⟩ := p
  obtain ⟨q0, q1, q2, q3⟩ := q
  refine ⟨pth_of_block (T := T) (fr := (0, 0)) ((hb.block _ (by rw [heap_size_alloc', heap_size_alloc']; omega)).trans ((Below.heap_alloc _ _ _ (by rw [heap_size_alloc']; omega)).trans (heap_alloc_new w _))), pth_of_block (T := T2) (fr := (0, 0)) ((hb.block _ (by rw [heap_size_alloc', heap_size_alloc']; omega)).trans ?_), hs, (((Below.refl _ _).alloc (Nat.le_refl _) _).alloc (by rw [heap_size_alloc']; omega) _).trans (hb.mono (by rw [heap_size_alloc', heap_size_alloc']; omega))⟩
  have h := heap_alloc_new (w.alloc (.cells #[.int .i64 p0, .int .i64 p1, .int .i64 p2, .int .i64 p3] T)) (.cells #[.int .i64 q0, .int .i64 q1, .int .i64 q2, .int .i64 q3] T2)
  rwa [heap_size_alloc'] at h
theorem spec_Conflict (p q : Pth) (w : World) : Calls Tryd.prog 59 #[p.val, q.val] w fun e w' => e = .returned (.bool (conf p q)) ∧ Below w.heap.size w w' := by
  obtain ⟨a, b, c, d⟩ := p
  obtain ⟨a', b', c', d'⟩ := q
  have hv : (Pth.mk a b c d).val = .agg #[.int .i64 a, .int .i64 b, .int .i64 c, .int .i64 d] := rfl
  have hv' : (Pth.mk a' b' c' d').val = .agg #[.int .i64 a', .int .i64 b', .int .i64 c', .int .i64 d'] := rfl
  have HC : Hid (conf ⟨a, b, c, d⟩ ⟨a', b', c', d'⟩ = if isP ⟨a, b, c, d⟩ && isP ⟨a', b', c', d'⟩ && !(decide (b = 2) && decide (b' = 2)) then
    (if b = 2 then decide (c' = c) || decide (d' = c) else if b' = 2 then decide (c = c') || decide (d = c') else if c = c' then false else if d = d' then true else inter (inPl c) (outPl d) (inPl c') (outPl d')) else false) := Lib.hid rfl
  rw [hv, hv']
  go_enter Tryd.func59, Tryd.ntmps59
  go_wp2_with fail
  refine (spec_IsPath ⟨a, b, c, d⟩ _).mono ?_
  rintro e w1 ⟨rfl, hb⟩
  obtain ⟨hA, hB, hs1, hb1⟩ := boxed_two (p := ⟨a, b, c, d⟩) (q := ⟨a', b', c', d'⟩) hb
  obtain ⟨x0, x1, x2, x3⟩ := pth_head hA
  obtain ⟨y0, y1, y2, y3⟩ := pth_head hB
  simp only at x0 x1 x2 x3 y0 y1 y2 y3
  clear hb
  cases hp : isP ⟨a, b, c, d⟩
  · rw [hp] at HC
    go_wp2
    go_ret
    exact ⟨by rw [HC.out]; rfl, hb1⟩
  rw [hp] at HC
  go_wp2_with fail
  refine (spec_IsPath ⟨a', b', c', d'⟩ _).mono ?_
  rintro e w2 ⟨rfl, hb⟩
  replace hA := hA.below hb (by simp; omega)
  replace hB := hB.below hb (by simp; omega)
  have hs2 := Nat.le_trans hs1 hb.size
  have lt1 : w.heap.size < w2.heap.size := by omega
  have lt2 : w.heap.size + 1 < w2.heap.size := by omega
  replace hb1 := hb1.trans (hb.mono hb1.size)
  obtain ⟨x0, x1, x2, x3⟩ := pth_head hA
  obtain ⟨y0, y1, y2, y3⟩ := pth_head hB
  simp only at x0 x1 x2 x3 y0 y1 y2 y3
  clear hb
  cases hq : isP ⟨a', b', c', d'⟩
  · rw [hq] at HC
    go_wp2
    go_ret
    exact ⟨by rw [HC.out]; rfl, hb1⟩
  rw [hq] at HC
  by_cases hk : b = 2
  · have e1 : (b == 2) = true := by simpa using hk
    rw [decide_eq_true hk, if_pos hk] at HC
    by_cases hk2 : b' = 2
    · have e2 : (b' == 2) = true := by simpa using hk2
      rw [decide_eq_true hk2] at HC
      clear hk hk2
      go_wp2
      go_ret
      exact ⟨by rw [HC.out]; rfl, hb1⟩
    · have e2 : (b' == 2) = false := by simpa using hk2
      rw [decide_eq_false hk2] at HC
      clear hk hk2
      by_cases h1 : c' = c
      · have e3 : (c' == c) = true := by simpa using h1
        rw [decide_eq_true h1] at HC
        clear h1
        go_wp2
        go_ret
        exact ⟨by rw [HC.out]; rfl, hb1⟩
      · have e3 : (c' == c) = false := by simpa using h1
        have e4 : (d' == c) = decide (d' = c) := rfl
        rw [decide_eq_false h1] at HC
        clear h1
        go_wp2
        go_ret
        exact ⟨by rw [HC.out]; rfl, hb1⟩
  · have e1 : (b == 2) = false := by simpa using hk
    rw [decide_eq_false hk, if_neg hk] at HC
    clear hk
    by_cases hk2 : b' = 2
    · have e2 : (b' == 2) = true := by simpa using hk2
      rw [if_pos hk2] at HC
      clear hk2
      by_cases h1 : c = c'
      · have e3 : (c == c') = true := by simpa using h1
        rw [decide_eq_true h1] at HC
        clear h1
        go_wp2
        go_ret
        exact ⟨by rw [HC.out]; rfl, hb1⟩
      · have e3 : (c == c') = false := by simpa using h1
        rw [decide_eq_false h1] at HC
        clear h1
        go_wp2
        go_ret
        exact ⟨by rw [HC.out]; rfl, hb1⟩
    · have e2 : (b' == 2) = false := by simpa using hk2
      rw [if_neg hk2] at HC
      clear hk2
      by_cases h1 : c = c'
      · have e3 : (c == c') = true := by simpa using h1
        rw [if_pos h1] at HC
        clear h1
        go_wp2
        go_ret
        exact ⟨by rw [HC.out]; rfl, hb1⟩
      · have e3 : (c == c') = false := by simpa using h1
        rw [if_neg h1] at HC
        clear h1
        by_cases h2 : d = d'
        · have e4 : (d == d') = true := by simpa using h2
          rw [if_pos h2] at HC
          clear h2
          go_wp2
          go_ret
          exact ⟨by rw [HC.out]; rfl, hb1⟩
        · have e4 : (d == d') = false := by simpa using h2
          rw [if_neg h2] at HC
          clear h2
          have HS := Lib.hid hb1
          go_wp2
          clear hA hB x0 x1 y0 y1 hs1
          go_region_held3 (fun W' => W'.cell? ⟨w.heap.size, 2, none⟩ = some (.int .i64 c) ∧ W'.cell? ⟨w.heap.size, 3, none⟩ = some (.int .i64 d) ∧ W'.cell? ⟨w.heap.size + 1, 2, none⟩ = some (.int .i64 c') ∧ W'.cell? ⟨w.heap.size + 1, 3, none⟩ = some (.int .i64 d'))
            (first | exact ⟨x2, x3, y2, y3⟩ | exact ⟨(hb3.cell lt1).trans x2, (hb3.cell lt1).trans x3, (hb3.cell lt2).trans y2, (hb3.cell lt2).trans y3⟩ | fail "keep")
            (first
              | (go_at_call 80; refine (spec_InPlace _ _).mono ?_; rintro e w3 ⟨rfl, rfl⟩)
              | (go_at_call 81; refine (spec_OutPlace _ _).mono ?_; rintro e w3 ⟨rfl, rfl⟩)
              | (go_at_call 79; refine (spec_Interleave _ _ _ _ _).mono ?_; rintro e w3 ⟨rfl, hb3⟩; replace hb3 := below_undrew hb3))
          go_wp2
          go_ret
          exact ⟨by rw [HC.out]; rfl, HS.out.trans (hb3.mono HS.out.size)⟩
end Go.Proofs.YtmpcbkonelcceaaDoor

/- Regions that draw their order, whose operations read old memory and whose callees make new memory alone: one walk of the text's order. No program. -/
namespace Go.Proofs.YtmpcbkonelcceaaDoor
open Go.RowKit

/-- a world in which only new memory has been made since w. -/
structure GW (w : World) where
  val : World
  ok : Below w.heap.size w val
instance (w : World) : Nonempty (GW w) := ⟨⟨w, Below.refl _ _⟩⟩
theorem wp_region_grow {P : Program} {id : Nat} {Q : Exit → Act → World → Prop} {a : Act} {w : World} {l : List Oper} (hm : P.follows .mixedOrders = true) (hB : Region.lexB .any l.toArray = true)
    (h : wpQuiet P l.toArray (fun w' => ∃ x : GW w, w' = x.val) (fun a' => ∀ x : GW w, Q .normal a' x.val) l a) : (Code.region id l.toArray true).wp P Q a w := by
  refine wp_region_quiet (C := fun w' => ∃ x : GW w, w' = x.val) hm hB ⟨⟨w.drew, ⟨rfl, rfl, rfl, Nat.le_refl _, fun _ _ => rfl⟩⟩, rfl⟩ ?_
  have e : (fun a' => ∀ w', (∃ x : GW w, w' = x.val) → Q .normal a' w') = (fun a' => ∀ x : GW w, Q .normal a' x.val) := by
    funext a'
    exact propext ⟨fun h x => h _ ⟨x, rfl⟩, fun h w' ⟨x, hx⟩ => hx ▸ h x⟩
  rw [e]
  simpa using h
/-- a callee's contract, met in such a world. -/
theorem calls_gw {P : Program} {f : FuncId} {args : Array Value} {w : World} {v : Value} (x : GW w) (h : Calls P f args x.val fun e w'' => e = .returned v ∧ Below x.val.heap.size x.val w'') :
    Calls P f args x.val fun e w'' => e = .returned v ∧ ∃ y : GW w, w'' = y.val := h.mono fun _ w'' ⟨he, hb⟩ => ⟨he, ⟨w'', x.ok.trans (hb.mono x.ok.size)⟩, rfl⟩
theorem calls_gw_same {P : Program} {f : FuncId} {args : Array Value} {w : World} {v : Value} (x : GW w) (h : Calls P f args x.val fun e w'' => e = .returned v ∧ x.val = w'') :
    Calls P f args x.val fun e w'' => e = .returned v ∧ ∃ y : GW w, w'' = y.val := h.mono fun _ _ ⟨he, hb⟩ => ⟨he, x, hb.symm⟩
end Go.Proofs.YtmpcbkonelcceaaDoor

/- Chapter 5's model: lists of paths. -/
namespace Go.Proofs.YtmpcbkonelcceaaDoor
open Go.RowKit
set_option linter.unusedVariables false

theorem spec_FindPath (A : Option Addr) (n c B : Nat) (ps : List Pth) (id : Int) (w : World) (h : PthsAt w B A n ps) (hn : n ≤ 4294967296) :
    Calls Tryd.prog 58 #[.slice A n c, .int .i64 id] w fun e w' => e = .returned (.int .i64 (findI id ps)) ∧ w = w' := by
  have hl := h.1
  go_enter Tryd.func58, Tryd.ntmps58
  go_wp2
  go_loop [5] (fun i => ∃ k : Nat, k ≤ n ∧ i = .int .i64 k ∧ ∀ j q, j < k → ps[j]? = some q → q.id ≠ id) (fun i => n - (intOf i).toNat)
  case atStart => exact ⟨0, Nat.zero_le _, rfl, fun j q hj => absurd hj (by omega)⟩
  case round =>
    obtain ⟨k, hk, rfl, hno⟩ := hrel
    by_cases hlt : k < n
    · obtain ⟨ad, p, rfl, hab, hp, hq⟩ := h.at hlt
      obtain ⟨c0, c1, c2, c3⟩ := hq
      by_cases he : p.id = id
      · have HR : Hid (findI id ps = (k : Int)) := Lib.hid (by unfold findI; rw [findK_some hno hp he])
        have e1 : (p.id == id) = true := by simpa using he
        clear hno he
        go_wp2
        go_ret
        exact ⟨by rw [HR.out]; rfl, rfl⟩
      · have HN : Hid (∀ j q, j < k + 1 → ps[j]? = some q → q.id ≠ id) := Lib.hid (fun j q hj hq => by
          by_cases e : j = k
          · subst e; rw [hp] at hq; cases hq; exact he
          · exact hno j q (by omega) hq)
        have e1 : (p.id == id) = false := by simpa using he
        clear hno he
        go_wp2
        go_round
        case rel => exact ⟨k + 1, by omega, by go_num, HN.out⟩
        case measure => simp [intOf]; omega
    · obtain rfl : k = n := by omega
      have HR : Hid (findI id ps = -1) := Lib.hid (by
        unfold findI
        rw [findK_none (fun j q hq => hno j q (by have := (List.getElem?_eq_some_iff.1 hq).1; omega) hq)])
      clear hno
      go_wp2
      go_ret
      exact ⟨by rw [HR.out]; rfl, rfl⟩
set_option maxHeartbeats 1000000 in
set_option maxRecDepth 100000 in
theorem spec_ArePaths (A : Option Addr) (n c B : Nat) (ps : List Pth) (w : World) (h : PthsAt w B A n ps) (hB : B ≤ w.heap.size) (hn : n ≤ 4294967296) :
    Calls Tryd.prog 60 #[.slice A n c] w fun e w' => e = .returned (.bool (arePs ps)) ∧ Below w.heap.size w w' := by
  have hl := h.1
  go_enter Tryd.func60, Tryd.ntmps60
  go_wp2
  go_loopw [3] (fun i wr => ∃ k : Nat, k ≤ n ∧ i = .int .i64 k ∧ (∀ j, j < k → goodAt ps j = true) ∧ Below w.heap.size w wr) (fun i _ => n - (intOf i).toNat)
  case atStart => exact ⟨0, Nat.zero_le _, rfl, fun j hj => absurd hj (by omega), Below.refl _ _⟩
  case round =>
    obtain ⟨k, hk, rfl, hgo, hbl⟩ := hrel
    have hsz := hbl.size
    by_cases hlt : k < n
    · obtain ⟨ad, p, rfl, hab, hp, hq⟩ := h.at hlt
      replace hq := hq.below hbl (by omega)
      have i1 : (0 : Int) ≤ (k : Int) := by omega
      have i2 : (k : Int) < (n : Int) := by omega
      cases hv : isP p
      · have HR : Hid (arePs ps = false) := Lib.hid (arePs_no (k := k) (by omega) (by unfold goodAt; rw [hp]; simp [hv]))
        have HV := Lib.hid hv
        clear hgo hv
        go_wp2
        have c0 := fun x : GW wr => (hq.below x.ok (by omega)).c0
        have c1 := fun x : GW wr => (hq.below x.ok (by omega)).c1
        have c2 := fun x : GW wr => (hq.below x.ok (by omega)).c2
        have c3 := fun x : GW wr => (hq.below x.ok (by omega)).c3
        have hcc := fun x : GW wr => spec_IsPath p x.val
        rw [HV.out] at hcc
        refine wp_region_grow (by kernel_rfl) (by kernel_rfl) ?_
        repeat (go_big_quiet_step (first | (go_at_call 78; exact calls_gw _ (hcc _))))
        refine wpQuiet_nil ?_
        intro x3
        have hb3 := x3.ok
        generalize x3.val = w3 at *
        go_wp2
        go_ret
        exact ⟨by rw [HR.out]; rfl, hbl.trans (hb3.mono hsz)⟩
      · have HV := Lib.hid hv
        have c0 := fun x : GW wr => (hq.below x.ok (by omega)).c0
        have c1 := fun x : GW wr => (hq.below x.ok (by omega)).c1
        have c2 := fun x : GW wr => (hq.below x.ok (by omega)).c2
        have c3 := fun x : GW wr => (hq.below x.ok (by omega)).c3
        have hcc := fun x : GW wr => spec_IsPath p x.val
        rw [HV.out] at hcc
        by_cases hk0 : k = 0
        · have HG : Hid (∀ j, j < k + 1 → goodAt ps j = true) := Lib.hid (fun j hj => by
            obtain rfl : j = k := by omega
            subst hk0
            unfold goodAt
            rw [hp]
            simp [hv])
          have d0 : decide (0 < k) = false := decide_eq_false (by omega)
          have d1 : decide ((0 : Int) < (k : Int)) = false := decide_eq_false (by omega)
          clear hgo hv hk0
          go_wp2
          refine wp_region_grow (by kernel_rfl) (by kernel_rfl) ?_
          repeat (go_big_quiet_step (first | (go_at_call 78; exact calls_gw _ (hcc _))))
          refine wpQuiet_nil ?_
          intro x3
          have hb3 := x3.ok
          generalize x3.val = w3 at *
          go_wp2
          go_roundw
          case rel => exact ⟨k + 1, by omega, by go_num, HG.out, hbl.trans (hb3.mono hsz)⟩
          case measure => simp [intOf]; omega
        · obtain ⟨m, hm⟩ : ∃ m, m + 1 = k := ⟨k - 1, by omega⟩
          obtain ⟨ad', q, e, hab2, hp2, hq2⟩ := h.at (k := m) (by omega)
          injection e with e
          subst e
          replace hq2 := hq2.below hbl (by omega)
          have d0 : decide (0 < k) = true := decide_eq_true (by omega)
          have d1 : decide ((0 : Int) < (k : Int)) = true := decide_eq_true (by omega)
          have b0 := fun x : GW wr => (hq2.below x.ok (by omega)).c0
          have j1 : (0 : Int) ≤ (m : Int) := by omega
          have j2 : (m : Int) < (n : Int) := by omega
          have w0 : IntKind.i64.wrap ((k : Int) - 1) = (m : Int) := by rw [IntKind.wrap_i64]; omega
          have w1 : wrap64 ((k : Int) - 1) = (m : Int) := by rw [IntWalk.wrap64_in _ (by omega)]; omega
          by_cases hlt2 : q.id < p.id
          · have HG : Hid (∀ j, j < k + 1 → goodAt ps j = true) := Lib.hid (fun j hj => by
              by_cases e : j = k
              · subst e
                unfold goodAt
                rw [hp]
                obtain rfl := hm
                simp [hv, hp2, hlt2]
              · exact hgo j (by omega))
            have e1 : decide (p.id ≤ q.id) = false := decide_eq_false (by omega)
            have e2 : ¬ q.id ≥ p.id := by omega
            clear hgo hv hp hp2 hm
            go_wp2
            refine wp_region_grow (by kernel_rfl) (by kernel_rfl) ?_
            repeat (go_big_quiet_step (first | (go_at_call 78; exact calls_gw _ (hcc _))))
            refine wpQuiet_nil ?_
            intro x3
            have hb3 := x3.ok
            generalize x3.val = w3 at *
            go_wp2
            go_roundw
            case rel => exact ⟨k + 1, by omega, by go_num, HG.out, hbl.trans (hb3.mono hsz)⟩
            case measure => simp [intOf]; omega
          · have HR : Hid (arePs ps = false) := Lib.hid (arePs_no (k := k) (by omega) (by
              unfold goodAt
              rw [hp]
              obtain rfl := hm
              simp [hv, hp2, hlt2]))
            have e1 : decide (p.id ≤ q.id) = true := decide_eq_true (by omega)
            clear hgo hv hp hp2 hm
            go_wp2
            refine wp_region_grow (by kernel_rfl) (by kernel_rfl) ?_
            repeat (go_big_quiet_step (first | (go_at_call 78; exact calls_gw _ (hcc _))))
            refine wpQuiet_nil ?_
            intro x3
            have hb3 := x3.ok
            generalize x3.val = w3 at *
            go_wp2
            go_ret
            exact ⟨by rw [HR.out]; rfl, hbl.trans (hb3.mono hsz)⟩
    · obtain rfl : k = n := by omega
      have HR := Lib.hid (arePs_end (ps := ps) (fun j hj => hgo j (by omega)))
      clear hgo
      go_wp2
      go_ret
      exact ⟨by rw [HR.out, hl]; simp; try omega, hbl⟩
end Go.Proofs.YtmpcbkonelcceaaDoor

/- Chapter 5's model: conflicts among the paths of a list. -/

namespace Go.Proofs.YtmpcbkonelcceaaDoor
open Go.RowKit
set_option linter.unusedVariables false

/-- the k-th path. -/
def pAt (ps : List Pth) (k : Nat) : Pth := ps.getD k ⟨0, 0, 0, 0⟩
theorem pAt_some {ps : List Pth} {k : Nat} {p : Pth} (h : ps[k]? = some p) : pAt ps k = p := by simp [pAt, List.getD, h]
/-- how many of the first k paths the i-th one conflicts with. -/
def cntTo (ps : List Pth) (i k : Nat) : Nat := ((ps.take k).filter (fun q => conf (pAt ps i) q)).length
def cntAll (ps : List Pth) : Nat → Nat
  | 0 => 0
  | i + 1 => cntAll ps i + cntTo ps i i
/-- what CountConflicts answers. -/
def countCs (ps : List Pth) : Int := if arePs ps then (cntAll ps ps.length : Int) else 0
theorem cntTo_zero (ps : List Pth) (i : Nat) : cntTo ps i 0 = 0 := by simp [cntTo]
theorem cntTo_yes {ps : List Pth} {i k : Nat} {p q : Pth} (hp : ps[i]? = some p) (hq : ps[k]? = some q) (h : conf p q = true) : cntTo ps i (k + 1) = cntTo ps i k + 1 := by
  unfold cntTo
  rw [List.take_add_one, hq, List.filter_append, pAt_some hp]
  simp [h]
theorem cntTo_no {ps : List Pth} {i k : Nat} {p q : Pth} (hp : ps[i]? = some p) (hq : ps[k]? = some q) (h : conf p q = false) : cntTo ps i (k + 1) = cntTo ps i k := by
  unfold cntTo
  rw [List.take_add_one, hq, List.filter_append, pAt_some hp]
  simp [h]
theorem cntTo_le (ps : List Pth) (i k : Nat) : cntTo ps i k ≤ k := by
  unfold cntTo
  exact Nat.le_trans (List.length_filter_le _ _) (by rw [List.length_take]; omega)
theorem cntAll_le (ps : List Pth) : ∀ i, i ≤ 12 → cntAll ps i ≤ 12 * i
  | 0, _ => Nat.le_refl _
  | i + 1, h => by
    have h1 := cntAll_le ps i (by omega)
    have h2 := cntTo_le ps i i
    show cntAll ps i + cntTo ps i i ≤ _
    omega
theorem arePs_len {ps : List Pth} (h : arePs ps = true) : ps.length ≤ 12 := by
  unfold arePs at h
  simp at h
  exact h.2
/-- the Ids of those of the first i paths that conflict with the k-th. -/
def confTo (ps : List Pth) (k i : Nat) : List Int := ((ps.take i).filter (fun q => conf q (pAt ps k))).map Pth.id
/-- what ConflictsOf answers. -/
def confsOf (ps : List Pth) (id : Int) : List Int := match findK id ps with
  | none => []
  | some k => if arePs ps then confTo ps k ps.length else []
theorem confTo_zero (ps : List Pth) (k : Nat) : confTo ps k 0 = [] := by simp [confTo]
theorem confTo_yes {ps : List Pth} {i k : Nat} {p q : Pth} (hp : ps[i]? = some p) (hq : ps[k]? = some q) (h : conf p q = true) : confTo ps k (i + 1) = confTo ps k i ++ [p.id] := by
  unfold confTo
  rw [List.take_add_one, hp, List.filter_append, pAt_some hq]
  simp [h]
theorem confTo_no {ps : List Pth} {i k : Nat} {p q : Pth} (hp : ps[i]? = some p) (hq : ps[k]? = some q) (h : conf p q = false) : confTo ps k (i + 1) = confTo ps k i := by
  unfold confTo
  rw [List.take_add_one, hp, List.filter_append, pAt_some hq]
  simp [h]
theorem confTo_len (ps : List Pth) (k i : Nat) : (confTo ps k i).length ≤ i := by
  unfold confTo
  rw [List.length_map]
  exact Nat.le_trans (List.length_filter_le _ _) (by rw [List.length_take]; omega)
end Go.Proofs.YtmpcbkonelcceaaDoor

/- Chapter 5's model: IsTogether. -/
namespace Go.Proofs.YtmpcbkonelcceaaDoor
open Go.RowKit
set_option linter.unusedVariables false

/-- the path with the k-th Id. -/
def idPth (ps : List Pth) (ids : List Int) (k : Nat) : Pth := pAt ps ((findK (ids.getD k 0) ps).getD 0)
/-- the i-th Id is a path's, is beyond the one before, and its path conflicts with none of those before. -/
def togAt (ps : List Pth) (ids : List Int) (i : Nat) : Bool := (findK (ids.getD i 0) ps).isSome && (i == 0 || decide (ids.getD (i - 1) 0 < ids.getD i 0)) && (List.range i).all (fun k => !conf (idPth ps ids i) (idPth ps ids k))
/-- what IsTogether answers. -/
def isTog (ps : List Pth) (ids : List Int) : Bool := (List.range ids.length).all (togAt ps ids) && arePs ps
theorem isTog_no {ps : List Pth} {ids : List Int} {i : Nat} (hi : i < ids.length) (h : togAt ps ids i = false) : isTog ps ids = false := by
  unfold isTog
  have : (List.range ids.length).all (togAt ps ids) = false := by
    rw [Bool.eq_false_iff]
    intro ha
    have := List.all_eq_true.1 ha i (List.mem_range.2 hi)
    rw [h] at this
    cases this
  rw [this]
  rfl
theorem isTog_end {ps : List Pth} {ids : List Int} (h : ∀ i, i < ids.length → togAt ps ids i = true) : isTog ps ids = arePs ps := by
  unfold isTog
  have : (List.range ids.length).all (togAt ps ids) = true := List.all_eq_true.2 fun k hk => h k (List.mem_range.1 hk)
  rw [this]
  simp
theorem togAt_none {ps : List Pth} {ids : List Int} {i : Nat} (h : findK (ids.getD i 0) ps = none) : togAt ps ids i = false := by unfold togAt; rw [h]; rfl
theorem togAt_low {ps : List Pth} {ids : List Int} {i : Nat} (h0 : i ≠ 0) (h : ¬ ids.getD (i - 1) 0 < ids.getD i 0) : togAt ps ids i = false := by
  unfold togAt
  have e1 : (i == 0) = false := by simpa using h0
  rw [e1, decide_eq_false h]
  simp
theorem togAt_conf {ps : List Pth} {ids : List Int} {i k : Nat} (hk : k < i) (h : conf (idPth ps ids i) (idPth ps ids k) = true) : togAt ps ids i = false := by
  unfold togAt
  have : (List.range i).all (fun k => !conf (idPth ps ids i) (idPth ps ids k)) = false := by
    rw [Bool.eq_false_iff]
    intro ha
    have := List.all_eq_true.1 ha k (List.mem_range.2 hk)
    rw [h] at this
    cases this
  rw [this]
  simp
theorem togAt_yes {ps : List Pth} {ids : List Int} {i m : Nat} (h : findK (ids.getD i 0) ps = some m) (h1 : i = 0 ∨ ids.getD (i - 1) 0 < ids.getD i 0) (h2 : ∀ k, k < i → conf (idPth ps ids i) (idPth ps ids k) = false) : togAt ps ids i = true := by
  unfold togAt
  have : (List.range i).all (fun k => !conf (idPth ps ids i) (idPth ps ids k)) = true := List.all_eq_true.2 fun k hk => by rw [h2 k (List.mem_range.1 hk)]; rfl
  rw [this, h]
  rcases h1 with rfl | h1
  · rfl
  · rw [decide_eq_true h1]; simp
theorem togAt_some {ps : List Pth} {ids : List Int} {i : Nat} (h : togAt ps ids i = true) : ∃ m p, findK (ids.getD i 0) ps = some m ∧ ps[m]? = some p ∧ idPth ps ids i = p := by
  unfold togAt at h
  cases e : findK (ids.getD i 0) ps with
  | none => rw [e] at h; simp at h
  | some m =>
    obtain ⟨p, hp, _, _⟩ := findK_at e
    exact ⟨m, p, rfl, hp, by unfold idPth; rw [e]; exact pAt_some hp⟩
set_option maxHeartbeats 1000000 in
set_option maxRecDepth 100000 in
theorem spec_IsTogether (A : Option Addr) (n c B : Nat) (ps : List Pth) (A2 : Option Addr) (n2 c2 B2 : Nat) (zs : List Int) (w : World) (h : PthsAt w B A n ps) (h2 : IntsAt .i64 w B2 A2 n2 zs) (hB : B ≤ w.heap.size) (hB2 : B2 ≤ w.heap.size) (hn : n ≤ 4294967296) (hn2 : n2 ≤ 4294967296) :
    Calls Tryd.prog 39 #[.slice A n c, .slice A2 n2 c2] w fun e w' => e = .returned (.bool (isTog ps zs)) ∧ Below w.heap.size w w' := by
  have hl := h.1
  have hl2 := h2.1
  go_enter Tryd.func39, Tryd.ntmps39
  go_wp2
  go_loopw [5] (fun i wr => ∃ j : Nat, j ≤ n2 ∧ i = .int .i64 j ∧ (∀ i', i' < j → togAt ps zs i' = true) ∧ Below w.heap.size w wr) (fun i _ => n2 - (intOf i).toNat)
  case atStart => exact ⟨0, Nat.zero_le _, rfl, fun i' hi => absurd hi (by omega), Below.refl _ _⟩
  case round =>
    obtain ⟨j, hj, rfl, hgo, hbl⟩ := hrel
    have hsz := hbl.size
    by_cases hlt : j < n2
    · obtain ⟨ad2, rfl, hab2, hcell⟩ := h2.2 (by omega)
      have hc := (hbl.cell (by rw [add_block]; omega)).trans (hcell j hlt)
      have hx := fun (k : Nat) (hk : k < n2) (x : GW wr) => (x.ok.cell (by rw [add_block]; omega)).trans ((hbl.cell (by rw [add_block]; omega)).trans (hcell k hk))
      have HG := Lib.hid hgo
      have HX := Lib.hid hx
      have HC := Lib.hid hcell
      clear hgo hcell hx
      generalize hz : zs.getD j 0 = z at hc
      have HZ := Lib.hid hz
      clear hz
      go_wp2_with fail
      refine (spec_FindPath A n c B ps z wr (h.below (hbl.mono hB)) hn).mono ?_
      rintro e w1 ⟨rfl, rfl⟩
      cases hf : findK z ps with
      | none =>
        have HR : Hid (isTog ps zs = false) := Lib.hid (isTog_no (by omega) (togAt_none (i := j) (by rw [HZ.out]; exact hf)))
        have hi : findI z ps = -1 := by simp [findI, hf]
        rw [hi]
        clear hf hi
        go_wp2
        refine wp_region_grow (by kernel_rfl) (by kernel_rfl) ?_
        repeat (go_big_quiet_step (fail))
        refine wpQuiet_nil ?_
        intro x3
        have hb3 := x3.ok
        generalize x3.val = w3 at *
        go_wp2
        go_ret
        exact ⟨by rw [HR.out]; rfl, hbl.trans (hb3.mono hsz)⟩
      | some m =>
        obtain ⟨p, hp, hqi, hqn⟩ := findK_at hf
        have hmn : m < n := by have := (List.getElem?_eq_some_iff.1 hp).1; omega
        have hi : findI z ps = (m : Int) := by simp [findI, hf]
        rw [hi]
        have HF : Hid (findK (zs.getD j 0) ps = some m) := Lib.hid (by rw [HZ.out]; exact hf)
        have HI : Hid (idPth ps zs j = p) := Lib.hid (by unfold idPth; rw [HF.out]; exact pAt_some hp)
        clear hf hi hqi hqn
        obtain ⟨ad, p', rfl, hab, hp', hq1⟩ := h.at hmn
        obtain rfl : p' = p := by rw [hp] at hp'; exact (Option.some.inj hp').symm
        clear hp hp'
        have t0 : decide ((m : Int) < 0) = false := decide_eq_false (by omega)
        by_cases hbad : j ≠ 0 ∧ ¬ zs.getD (j - 1) 0 < zs.getD j 0
        · obtain ⟨hj0, hle⟩ := hbad
          have HR : Hid (isTog ps zs = false) := Lib.hid (isTog_no (by omega) (togAt_low hj0 hle))
          obtain ⟨k, hk⟩ : ∃ k, k + 1 = j := ⟨j - 1, by omega⟩
          have e1 : zs.getD (j - 1) 0 = zs.getD k 0 := by rw [← hk]; rfl
          rw [e1, HZ.out] at hle
          have b0 := HX.out j hlt
          have b1 := HX.out k (by omega)
          rw [HZ.out] at b0
          generalize zs.getD k 0 = y at *
          have d0 : decide ((0 : Int) < (j : Int)) = true := decide_eq_true (by omega)
          have dn : decide (0 < j) = true := decide_eq_true (by omega)
          have d1 : decide (z ≤ y) = true := decide_eq_true (by omega)
          have i1 : (0 : Int) ≤ (j : Int) := by omega
          have i2 : (j : Int) < (n2 : Int) := by omega
          have j1 : (0 : Int) ≤ (k : Int) := by omega
          have j2 : (k : Int) < (n2 : Int) := by omega
          have w0 : IntKind.i64.wrap ((j : Int) - 1) = (k : Int) := by rw [IntKind.wrap_i64]; omega
          have w1 : wrap64 ((j : Int) - 1) = (k : Int) := by rw [IntWalk.wrap64_in _ (by omega)]; omega
          clear hk e1 hle
          go_wp2
          refine wp_region_grow (by kernel_rfl) (by kernel_rfl) ?_
          repeat (go_big_quiet_step (fail))
          refine wpQuiet_nil ?_
          intro x3
          have hb3 := x3.ok
          generalize x3.val = w3 at *
          go_wp2
          go_ret
          exact ⟨by rw [HR.out]; rfl, hbl.trans (hb3.mono hsz)⟩
        · have HJ : Hid (j = 0 ∨ zs.getD (j - 1) 0 < zs.getD j 0) := Lib.hid (by
            by_cases e : j = 0
            · exact Or.inl e
            · exact Or.inr (Classical.byContradiction fun e2 => hbad ⟨e, e2⟩))
          clear hbad
          by_cases hj0 : j = 0
          case' pos =>
            have d0 : decide ((0 : Int) < (j : Int)) = false := decide_eq_false (by omega)
            have dn : decide (0 < j) = false := decide_eq_false (by omega)
            clear hj0
            go_wp2
            refine wp_region_grow (by kernel_rfl) (by kernel_rfl) ?_
            repeat (go_big_quiet_step (fail))
            refine wpQuiet_nil ?_
            intro x3
            have hb3 := x3.ok
            generalize x3.val = w3 at *
            clear dn d0
          case' neg =>
            obtain ⟨k, hk⟩ : ∃ k, k + 1 = j := ⟨j - 1, by omega⟩
            have e1 : zs.getD (j - 1) 0 = zs.getD k 0 := by rw [← hk]; rfl
            have hle := HJ.out.resolve_left hj0
            rw [e1, HZ.out] at hle
            have b0 := HX.out j hlt
            have b1 := HX.out k (by omega)
            rw [HZ.out] at b0
            generalize zs.getD k 0 = y at *
            have d0 : decide ((0 : Int) < (j : Int)) = true := decide_eq_true (by omega)
            have dn : decide (0 < j) = true := decide_eq_true (by omega)
            have d1 : decide (z ≤ y) = false := decide_eq_false (by omega)
            have i1 : (0 : Int) ≤ (j : Int) := by omega
            have i2 : (j : Int) < (n2 : Int) := by omega
            have j1 : (0 : Int) ≤ (k : Int) := by omega
            have j2 : (k : Int) < (n2 : Int) := by omega
            have w0 : IntKind.i64.wrap ((j : Int) - 1) = (k : Int) := by rw [IntKind.wrap_i64]; omega
            have w1 : wrap64 ((j : Int) - 1) = (k : Int) := by rw [IntWalk.wrap64_in _ (by omega)]; omega
            clear hk e1 hle hj0
            go_wp2
            refine wp_region_grow (by kernel_rfl) (by kernel_rfl) ?_
            repeat (go_big_quiet_step (fail))
            refine wpQuiet_nil ?_
            intro x3
            have hb3 := x3.ok
            generalize x3.val = w3 at *
            clear dn d0 d1 b0 b1 i1 i2 j1 j2 w0 w1
          all_goals
            have hbl3 := hbl.trans (hb3.mono hsz)
            clear hb3 hc
            go_wp2
            go_loopw [7] (fun i wr2 => ∃ k : Nat, k ≤ j ∧ i = .int .i64 k ∧ (∀ i', i' < k → conf (idPth ps zs j) (idPth ps zs i') = false) ∧ Below w.heap.size w wr2) (fun i _ => j - (intOf i).toNat)
            case atStart => exact ⟨0, Nat.zero_le _, rfl, fun i' hi => absurd hi (by omega), hbl3⟩
            case round =>
              clear hbl3
              obtain ⟨k, hk, rfl, hno, hbl4⟩ := hrel
              have hs4 := hbl4.size
              have HN := Lib.hid hno
              clear hno
              by_cases hlt4 : k < j
              · obtain ⟨m2, q, hf2, hq, hidq⟩ := togAt_some (HG.out k hlt4)
                have HQ := Lib.hid hidq
                have hm2 : m2 < n := by have := (List.getElem?_eq_some_iff.1 hq).1; omega
                obtain ⟨ad', q', e, hab4, hq', hq4⟩ := h.at hm2
                injection e with e
                subst e
                obtain rfl : q' = q := by rw [hq] at hq'; exact (Option.some.inj hq').symm
                have hc4 := (hbl4.cell (by rw [add_block]; omega)).trans (HC.out k (by omega))
                have HF2 := Lib.hid hf2
                generalize zs.getD k 0 = y at *
                have hx2 := fun x : GW wr => (x.ok.cell (by rw [add_block]; omega)).trans hc4
                have hcf := fun x : GW wr => spec_FindPath (some ad) n c B ps y x.val ((h.below (hbl4.mono hB)).below (x.ok.mono (by omega))) hn
                have hfy : findI y ps = (m2 : Int) := by unfold findI; rw [HF2.out]
                rw [hfy] at hcf
                replace hq4 := hq4.below hbl4 (by omega)
                have hp4 := hq1.below hbl4 (by omega)
                have c0 := fun x : GW wr => (hp4.below x.ok (by omega)).c0
                have c1 := fun x : GW wr => (hp4.below x.ok (by omega)).c1
                have c2 := fun x : GW wr => (hp4.below x.ok (by omega)).c2
                have c3 := fun x : GW wr => (hp4.below x.ok (by omega)).c3
                have b0 := fun x : GW wr => (hq4.below x.ok (by omega)).c0
                have b1 := fun x : GW wr => (hq4.below x.ok (by omega)).c1
                have b2 := fun x : GW wr => (hq4.below x.ok (by omega)).c2
                have b3 := fun x : GW wr => (hq4.below x.ok (by omega)).c3
                have hcc := fun x : GW wr => spec_Conflict p' q' x.val
                have i1 : (0 : Int) ≤ (m : Int) := by omega
                have i2 : (m : Int) < (n : Int) := by omega
                have j1 : (0 : Int) ≤ (k : Int) := by omega
                have j2 : (k : Int) < (n2 : Int) := by omega
                have k1 : (0 : Int) ≤ (m2 : Int) := by omega
                have k2 : (m2 : Int) < (n : Int) := by omega
                clear hf2 hq hq' hidq hfy hc4
                cases hv : conf p' q'
                · rw [hv] at hcc
                  have HV : Hid (conf (idPth ps zs j) (idPth ps zs k) = false) := Lib.hid (by rw [HI.out, HQ.out]; exact hv)
                  clear hv
                  go_wp2
                  refine wp_region_grow (by kernel_rfl) (by kernel_rfl) ?_
                  repeat (go_big_quiet_step (first | (go_at_call 58; exact calls_gw_same _ (hcf _)) | (go_at_call 59; exact calls_gw _ (hcc _))))
                  refine wpQuiet_nil ?_
                  intro x5
                  have hb5 := x5.ok
                  generalize x5.val = w5 at *
                  go_wp2
                  go_roundw
                  case rel => exact ⟨k + 1, by omega, by go_num, (fun i' hi => by
                    by_cases e : i' = k
                    · subst e; exact HV.out
                    · exact HN.out i' (by omega)), hbl4.trans (hb5.mono hs4)⟩
                  case measure => simp [intOf]; omega
                · rw [hv] at hcc
                  have HR : Hid (isTog ps zs = false) := Lib.hid (isTog_no (by omega) (togAt_conf (i := j) (k := k) hlt4 (by rw [HI.out, HQ.out]; exact hv)))
                  clear hv
                  go_wp2
                  refine wp_region_grow (by kernel_rfl) (by kernel_rfl) ?_
                  repeat (go_big_quiet_step (first | (go_at_call 58; exact calls_gw_same _ (hcf _)) | (go_at_call 59; exact calls_gw _ (hcc _))))
                  refine wpQuiet_nil ?_
                  intro x5
                  have hb5 := x5.ok
                  generalize x5.val = w5 at *
                  go_wp2
                  go_ret
                  exact ⟨by rw [HR.out]; rfl, hbl4.trans (hb5.mono hs4)⟩
              · obtain rfl : k = j := by omega
                have HT : Hid (togAt ps zs k = true) := Lib.hid (togAt_yes HF.out HJ.out (fun k' hk' => HN.out k' hk'))
                go_wp2
                go_roundw
                case rel => exact ⟨k + 1, by omega, by go_num, (fun i' hi => by
                  by_cases e : i' = k
                  · subst e; exact HT.out
                  · exact HG.out i' (by omega)), hbl4⟩
                case measure => simp [intOf]; omega
    · obtain rfl : j = n2 := by omega
      have HR : Hid (isTog ps zs = arePs ps) := Lib.hid (isTog_end (fun i hi => hgo i (by omega)))
      clear hgo
      go_wp2_with fail
      refine (spec_ArePaths A n c B ps wr (h.below (hbl.mono hB)) (by omega) hn).mono ?_
      rintro e w1 ⟨rfl, hb1⟩
      go_wp2
      go_ret
      exact ⟨by rw [HR.out]; rfl, hbl.trans (hb1.mono hsz)⟩
end Go.Proofs.YtmpcbkonelcceaaDoor

/- Chapter 6's model: ascending lists of numbers. -/
namespace Go.Proofs.YtmpcbkonelcceaaDoor
open Go.RowKit
set_option linter.unusedVariables false

/-- 'append(v, x...)' at a step of a region that draws its order. -/
theorem step_app {P : Program} {w : World} {ops : Array Oper} {o : Oper} {a : Act} {K : Act → World → Prop} {Q : Exit → Act → World → Prop} {F : Prop} (hgd : o.guard = none) (s x : Operand) (t : TypeId)
    (ho : o.op = .call { callee := .builtin .append, args := #[s, x], argTypes := #[t, t] })
    (k : IntKind) (E : TypeId) (bytes : Nat) (ht : P.underlying t = some (.slice E)) (hi : (P.info? E).map (fun i => (i.zero, i.size, i.bytes)) = some (some (.int k 0), 1, bytes))
    (lo : Nat) (v : Value) (xs : List Int) (hs : a.eval s = v) (hown : Own k E w lo v xs)
    (A : Option Addr) (m c B : Nat) (zs : List Int) (hx : a.eval x = .slice A m c) (hsrc : IntsAt k w B A m zs) (hnil : A = none → m = 0 ∧ c = 0) (hb : bytes ≤ 8)
    (hbytes : xs.length + m ≤ 4398046511104) (hlo : lo ≤ w.heap.size)
    (h : ∀ v' w', Own k E w' lo v' (xs ++ zs) → w.grownBy w' v.ownBlock → K (a.put o.dst v') w') :
    if Region.wanted o (yielded ops a.tmps) = true then Oper.wp P o a w K Q else F := by
  rw [if_pos (by simp [Region.wanted, hgd])]
  obtain ⟨i, hi1, hz, hsz, hby⟩ := info_parts hi
  have hzs := hsrc.1
  obtain ⟨Av, cv, hv⟩ := hown.sliced
  cases A with
  | none =>
    obtain ⟨rfl, rfl⟩ := hnil rfl
    have hz0 : zs = [] := List.eq_nil_of_length_eq_zero hzs
    subst hz0
    have hrun := run_append_owned_none (P := P) (w := w) lo t o.type E i 1 ht hi1 v xs.length _ hown
    have hrun2 := (run_append_types ht ht o.type Av xs.length cv (.slice none 0 0) w).trans (hv ▸ hrun)
    unfold Oper.wp
    simp [execOp, ho, resolve, invoke, builtin, hs, hx, hv, hrun2, Result.andThen]
    exact hv ▸ h v w (by rw [List.append_nil]; exact hown) (World.grownBy.refl _ _)
  | some ad =>
    obtain ⟨v', w', hr, h2, h3, h4, h5⟩ := run_append_own_at (P := P) w lo t o.type E i (.int k 0) 1 bytes ht hi1 hz hsz hby rfl (by omega) v xs.length _ hown ad m c (zs.map (Value.int k)) (by simp [hzs]) (ints_news hsrc) (ints_one k zs)
      (by unfold maxLen; omega) (by have : (xs.length + m) * bytes ≤ (xs.length + m) * 8 := Nat.mul_le_mul_left _ hb; omega) hlo
    have hrun2 := (run_append_types ht ht o.type Av xs.length cv (.slice (some ad) m c) w).trans (hv ▸ hr)
    unfold Oper.wp execOp
    simp only [ho, resolve, invoke, builtin, Sem.run_bind, Sem.run_pure, Result.andThen_ok, List.map_toArray, List.map_cons, List.map_nil, hs, hx, hv, hrun2]
    refine h v' w' ?_ h3
    unfold Own
    rw [List.length_append, List.map_append, hzs]
    exact h2
/-- 'append(v, x)', one number, at such a step. -/
theorem step_one {P : Program} {w : World} {ops : Array Oper} {o : Oper} {a : Act} {K : Act → World → Prop} {Q : Exit → Act → World → Prop} {F : Prop} (hgd : o.guard = none) (s x : Operand) (t : TypeId)
    (ho : o.op = .call { callee := .builtin .append, args := #[s, x], argTypes := #[t, t] })
    (k : IntKind) (E : TypeId) (bytes : Nat) (ht : P.underlying t = some (.slice E)) (hi : (P.info? E).map (fun i => (i.zero, i.size, i.bytes)) = some (some (.int k 0), 1, bytes))
    (lo : Nat) (v : Value) (xs : List Int) (hs : a.eval s = v) (hown : Own k E w lo v xs) (hb : bytes ≤ 8) (hbytes : xs.length < 4398046511104)
    (z : Int) (H : Nat) (hlo : lo ≤ w.heap.size) (hx : a.eval x = .slice (some ⟨H, 0, none⟩) 1 1) (hc : w.cell? ⟨H, 0, none⟩ = some (.int k z))
    (h : ∀ v' w', Own k E w' lo v' (xs ++ [z]) → w.grownBy w' v.ownBlock → K (a.put o.dst v') w') :
    if Region.wanted o (yielded ops a.tmps) = true then Oper.wp P o a w K Q else F :=
  step_app hgd s x t ho k E bytes ht hi lo v xs hs hown (some ⟨H, 0, none⟩) 1 1 (H + 1) [z] hx ⟨rfl, fun _ => ⟨_, rfl, by simp, fun j hj => by
    obtain rfl : j = 0 := by omega
    rw [add_head]
    exact hc⟩⟩ (by simp) hb (by omega) hlo h
/-- how many numbers at the head are below n. -/
def lowN (zs : List Int) (n : Int) : Nat := (zs.takeWhile (fun z => decide (z < n))).length
/-- a number put into an ascending list. -/
def putI (zs : List Int) (n : Int) : List Int := if zs[lowN zs n]? = some n then zs else zs.take (lowN zs n) ++ n :: zs.drop (lowN zs n)
theorem lowN_at : ∀ {zs : List Int} {n : Int} {k : Nat}, k ≤ zs.length → (∀ i, i < k → zs.getD i 0 < n) → (k < zs.length → ¬ zs.getD k 0 < n) → lowN zs n = k
  | [], n, k, hk, _, _ => by
    have : k = 0 := by simpa using hk
    subst this
    rfl
  | z :: zs, n, 0, _, _, h => by
    have := h (by simp)
    simp at this
    unfold lowN
    simp [List.takeWhile, show decide (z < n) = false from decide_eq_false (by omega)]
  | z :: zs, n, k + 1, hk, h, h2 => by
    have h0 := h 0 (by omega)
    simp at h0
    have ih := lowN_at (zs := zs) (n := n) (k := k) (by simpa using hk) (fun i hi => by simpa using h (i + 1) (by omega)) (fun hk => by simpa using h2 (by simpa using hk))
    unfold lowN at ih ⊢
    simp [List.takeWhile, show decide (z < n) = true from decide_eq_true h0, ih]
/-- what has says. -/
def hasI (zs : List Int) (n : Int) : Bool := zs.contains n
theorem hasI_no {zs : List Int} {n : Int} (h : ∀ i, i < zs.length → zs.getD i 0 ≠ n) : hasI zs n = false := by
  unfold hasI
  rw [Bool.eq_false_iff]
  intro hc
  obtain ⟨i, hi, e⟩ := List.getElem_of_mem (List.contains_iff_mem.1 hc)
  exact h i hi (by rw [List.getD_eq_getElem?_getD, List.getElem?_eq_getElem hi]; exact e)
theorem hasI_yes {zs : List Int} {n : Int} {i : Nat} (hi : i < zs.length) (h : zs.getD i 0 = n) : hasI zs n = true := by
  unfold hasI
  refine List.contains_iff_mem.2 ?_
  rw [← h, List.getD_eq_getElem?_getD, List.getElem?_eq_getElem hi]
  exact List.getElem_mem hi
/-- a block of one number that an append has left alone. -/
theorem grown_cell {W w3 : World} {row : Option Nat} (hg : W.grownBy w3 row) {H : Nat} {x : Int} {T : TypeId} (h : W.heap[H]? = some (.cells #[.int .i64 x] T (0, 0))) (hne : row ≠ some H) : w3.cell? ⟨H, 0, none⟩ = some (.int .i64 x) := by
  rw [cell_of_row w3 H 0 #[.int .i64 x] T (0, 0) ((hg.block H (lt_of_block h) (fun e => hne e.symm)).trans h)]
  rfl
/-- an empty row of the call's own. -/
theorem own_hollow {k : IntKind} {E : TypeId} {W : World} {lo g : Nat} (h : W.heap[g]? = some (.cells #[] E (0, 0))) (hl : lo ≤ g) : Own k E W lo (.slice (some ⟨g, 0, none⟩) 0 0) [] :=
  ⟨rfl, .inr ⟨g, 0, #[], rfl, hl, h, Nat.le_refl _, by decide, rfl, rfl⟩⟩
/-- the head of a list of numbers. -/
theorem IntsAt.head {k : IntKind} {w : World} {B : Nat} {A : Option Addr} {n : Nat} {zs : List Int} (h : IntsAt k w B A n zs) (m : Nat) (hm : m ≤ n) : IntsAt k w B A m (zs.take m) := by
  refine ⟨by rw [List.length_take, h.1]; omega, fun h0 => ?_⟩
  obtain ⟨ad, e, hb, hc⟩ := h.2 (by omega)
  refine ⟨ad, e, hb, fun j hj => ?_⟩
  rw [hc j (by omega), List.getD_eq_getElem?_getD, List.getD_eq_getElem?_getD, List.getElem?_take, if_pos hj]
/-- its tail. -/
theorem IntsAt.tail {k : IntKind} {w : World} {B : Nat} {ad : Addr} {n : Nat} {zs : List Int} (h : IntsAt k w B (some ad) n zs) (m : Nat) (hm : m ≤ n) : IntsAt k w B (some (ad.add m)) (n - m) (zs.drop m) := by
  refine ⟨by rw [List.length_drop, h.1], fun h0 => ?_⟩
  obtain ⟨a2, e, hb, hc⟩ := h.2 (by omega)
  injection e with e
  subst e
  refine ⟨_, rfl, by rw [add_block]; exact hb, fun j hj => ?_⟩
  rw [add_add, hc (m + j) (by omega), List.getD_eq_getElem?_getD, List.getD_eq_getElem?_getD, List.getElem?_drop]
theorem IntsAt.laid {k : IntKind} {w W : World} {B : Nat} {A : Option Addr} {n : Nat} {zs : List Int} (h : IntsAt k w B A n zs) (hB : B ≤ w.heap.size) (hb : Below w.heap.size w W) : IntsAt k W B A n zs := h.keep fun _ hp => hb.cell (by omega)
theorem alloc_heap (w : World) (o : Obj) : (w.alloc o).heap = w.heap.push o := rfl
theorem drew_heap (w : World) : w.drew.heap = w.heap := rfl
theorem spec_l6Has (A : Option Addr) (n c B : Nat) (zs : List Int) (x : Int) (w : World) (h : IntsAt .i64 w B A n zs) (hn : n ≤ 4294967296) :
    Calls Tryd.prog 82 #[.slice A n c, .int .i64 x] w fun e w' => e = .returned (.bool (hasI zs x)) ∧ w = w' := by
  have hl := h.1
  go_enter Tryd.func82, Tryd.ntmps82
  go_wp2
  go_loop [5] (fun i => ∃ k : Nat, k ≤ n ∧ i = .int .i64 k ∧ ∀ j, j < k → zs.getD j 0 ≠ x) (fun i => n - (intOf i).toNat)
  case atStart => exact ⟨0, Nat.zero_le _, rfl, fun j hj => absurd hj (by omega)⟩
  case round =>
    obtain ⟨k, hk, rfl, hno⟩ := hrel
    by_cases hlt : k < n
    · obtain ⟨ad, rfl, hab, hcell⟩ := h.2 (by omega)
      have hc := hcell k hlt
      have HN := Lib.hid hno
      clear hno hcell
      by_cases he : zs.getD k 0 = x
      · have HR : Hid (hasI zs x = true) := Lib.hid (hasI_yes (by omega) he)
        rw [he] at hc
        clear he
        go_wp2
        go_ret
        exact ⟨by rw [HR.out]; rfl, rfl⟩
      · have HS : Hid (∀ j, j < k + 1 → zs.getD j 0 ≠ x) := Lib.hid (fun j hj => by
          by_cases e : j = k
          · subst e; exact he
          · exact HN.out j (by omega))
        generalize zs.getD k 0 = z at *
        have e1 : (z == x) = false := by simpa using he
        clear he
        go_wp2
        go_round
        case rel => exact ⟨k + 1, by omega, by go_num, HS.out⟩
        case measure => simp [intOf]; omega
    · obtain rfl : k = n := by omega
      have HR : Hid (hasI zs x = false) := Lib.hid (hasI_no (fun i hi => hno i (by omega)))
      clear hno
      go_wp2
      go_ret
      exact ⟨by rw [HR.out]; rfl, rfl⟩
end Go.Proofs.YtmpcbkonelcceaaDoor

/- Chapter 7's answers as Lean data; no program. -/
namespace Go.Proofs.YtmpcbkonelcceaaDoor
open Go.RowKit
set_option linter.unusedVariables false

/-- what StaysOpen and Closes answer. -/
def stayL (zs ys : List Int) : List Int := zs.filter fun z => hasI ys z
def closL (zs ys : List Int) : List Int := zs.filter fun z => !hasI ys z
/-- the same with the wanted answer given. -/
def pickL (zs ys : List Int) (b : Bool) : List Int := zs.filter fun z => hasI ys z == b
theorem pick_true (zs ys : List Int) : pickL zs ys true = stayL zs ys := by
  unfold pickL stayL
  congr
  funext z
  cases hasI ys z <;> rfl
theorem pick_false (zs ys : List Int) : pickL zs ys false = closL zs ys := by
  unfold pickL closL
  congr
  funext z
  cases hasI ys z <;> rfl
theorem pick_zero (zs ys : List Int) (b : Bool) : pickL (zs.take 0) ys b = [] := by simp [pickL]
theorem pick_yes {zs ys : List Int} {b : Bool} {k : Nat} (hk : k < zs.length) (h : hasI ys (zs.getD k 0) = b) : pickL (zs.take (k + 1)) ys b = pickL (zs.take k) ys b ++ [zs.getD k 0] := by
  have e : zs[k]? = some (zs.getD k 0) := by rw [List.getD_eq_getElem?_getD, List.getElem?_eq_getElem hk]; rfl
  unfold pickL
  rw [List.take_add_one, e, List.filter_append]
  simp only [Option.toList, List.filter_cons, List.filter_nil, h, beq_self_eq_true, if_true]
theorem pick_no {zs ys : List Int} {b : Bool} {k : Nat} (hk : k < zs.length) (h : hasI ys (zs.getD k 0) = !b) : pickL (zs.take (k + 1)) ys b = pickL (zs.take k) ys b := by
  have e : zs[k]? = some (zs.getD k 0) := by rw [List.getD_eq_getElem?_getD, List.getElem?_eq_getElem hk]; rfl
  unfold pickL
  rw [List.take_add_one, e, List.filter_append]
  have h3 : (hasI ys (zs.getD k 0) == b) = false := by rw [h]; cases b <;> rfl
  rw [show (some (zs.getD k 0)).toList = [zs.getD k 0] from rfl, List.filter_cons_of_neg (by rw [h3]; simp), List.filter_nil, List.append_nil]
theorem pick_len (zs ys : List Int) (b : Bool) : (pickL zs ys b).length ≤ zs.length := List.length_filter_le _ _
theorem pick_len_take (zs ys : List Int) (b : Bool) (k : Nat) : (pickL (zs.take k) ys b).length ≤ k := Nat.le_trans (pick_len _ _ _) (by rw [List.length_take]; omega)
/-- what ClearOf answers. -/
def clearN (p : Pth) : Int := if isP p then (if p.kind = 1 then 2 else if p.kind = 2 then 5 else 3) else 0
theorem clearN_bound (p : Pth) : 0 ≤ clearN p ∧ clearN p ≤ 5 := by
  unfold clearN
  split
  · split
    · omega
    · split <;> omega
  · omega
/-- the greatest of the first k. -/
def mostTo (ps : List Pth) : Nat → Int
  | 0 => 0
  | k + 1 => maxI (mostTo ps k) (clearN (pAt ps k))
theorem mostTo_bound (ps : List Pth) : ∀ k, 0 ≤ mostTo ps k ∧ mostTo ps k ≤ 5
  | 0 => by simp [mostTo]
  | k + 1 => by
    obtain ⟨h1, h2⟩ := mostTo_bound ps k
    obtain ⟨h3, h4⟩ := clearN_bound (pAt ps k)
    show 0 ≤ maxI _ _ ∧ maxI _ _ ≤ 5
    unfold maxI
    split <;> omega
/-- what LongestClear answers. -/
def longC (ps : List Pth) : Int := if arePs ps then mostTo ps ps.length else 0
end Go.Proofs.YtmpcbkonelcceaaDoor

/- Chapter 7's model: ClearOf, StaysOpen, Closes, LongestClear. -/
namespace Go.Proofs.YtmpcbkonelcceaaDoor
open Go.RowKit
set_option linter.unusedVariables false

set_option maxHeartbeats 1000000 in
theorem spec_Closes (A : Option Addr) (n c B : Nat) (zs : List Int) (A2 : Option Addr) (n2 c2 B2 : Nat) (ys : List Int) (w : World) (h : IntsAt .i64 w B A n zs) (h2 : IntsAt .i64 w B2 A2 n2 ys) (hB : B ≤ w.heap.size) (hB2 : B2 ≤ w.heap.size) (hn : n ≤ 4294967296) (hn2 : n2 ≤ 4294967296) :
    Calls Tryd.prog 61 #[.slice A n c, .slice A2 n2 c2] w fun e w' => ∃ v, e = .returned v ∧ Own .i64 3 w' w.heap.size v (closL zs ys) ∧ Below w.heap.size w w' := by
  have hl := h.1
  have own0 := own_bare .i64 3 w
  have hb0 : Below w.heap.size w (w.alloc (.cells #[] 3)) := (Below.refl _ _).alloc (Nat.le_refl _) _
  go_enter Tryd.func61, Tryd.ntmps61
  go_wp2
  go_loopw [5, 6] (fun v i wr => ∃ k : Nat, k ≤ n ∧ i = .int .i64 k ∧ Own .i64 3 wr w.heap.size v (pickL (zs.take k) ys false) ∧ Below w.heap.size w wr) (fun _ i _ => n - (intOf i).toNat)
  case atStart => exact ⟨0, Nat.zero_le _, rfl, by rw [pick_zero]; exact own0, hb0⟩
  case round =>
    clear own0 hb0
    obtain ⟨k, hk, rfl, hown, hbl⟩ := hrel
    have hsz := hbl.size
    by_cases hlt : k < n
    · obtain ⟨ad, rfl, hab, hcell⟩ := h.2 (by omega)
      have hc := (hbl.cell (by rw [add_block]; omega)).trans (hcell k hlt)
      have hL := pick_len_take zs ys false k
      have hyes := fun h => Lib.hid (pick_yes (zs := zs) (ys := ys) (b := false) (k := k) (by omega) h)
      have hno := fun h => Lib.hid (pick_no (zs := zs) (ys := ys) (b := false) (k := k) (by omega) h)
      clear hcell
      generalize zs.getD k 0 = z at *
      generalize pickL (zs.take k) ys false = l at *
      go_wp2_with fail
      refine (spec_l6Has A2 n2 c2 B2 ys z wr (h2.laid hB2 hbl) hn2).mono ?_
      rintro e w1 ⟨rfl, rfl⟩
      cases hh : hasI ys z
      all_goals
        first
        | (have HS := hyes hh
           clear hh hyes hno
           go_wp2_with (at_builtin; refine wpList_app1 rfl _ _ 23 rfl .i64 3 8 Tryd.underlying23 info_i64 w.heap.size _ l rfl hown (by decide) (by omega) _ _ _ wr.heap.size hsz rfl (by simp) ?_; intro v4 w4 hown4 hgrow4 hat4)
           have hb4 := hown.push (Nat.le_refl _) (hbl.alloc hsz _) (by simp; omega) hgrow4
           clear hgrow4 hat4 hown hbl
           go_roundw
           case rel => exact ⟨k + 1, by omega, by go_num, by rw [HS.out]; exact hown4, hb4⟩
           case measure => simp [intOf]; omega)
        | (have HS := hno hh
           clear hh hyes hno
           go_wp2
           go_roundw
           case rel => exact ⟨k + 1, by omega, by go_num, by rw [HS.out]; exact hown, hbl⟩
           case measure => simp [intOf]; omega)
    · obtain rfl : k = n := by omega
      rw [List.take_of_length_le (by omega), pick_false] at hown
      go_wp2
      go_ret
      exact ⟨_, rfl, hown, hbl⟩
theorem spec_ClearOf (p : Pth) (w : World) : Calls Tryd.prog 63 #[p.val] w fun e w' => e = .returned (.int .i64 (clearN p)) ∧ Below w.heap.size w w' := by
  have hr := isP_facts p
  have hcc := fun x => spec_IsPath p x
  have HR : Hid (clearN p = if isP p then (if p.kind = 1 then 2 else if p.kind = 2 then 5 else 3) else 0) := Lib.hid rfl
  obtain ⟨a, b, c, d⟩ := p
  simp only [Pth.val] at *
  have hb0 := (Below.refl w.heap.size w).alloc (Nat.le_refl _) (.cells #[.int .i64 a, .int .i64 b, .int .i64 c, .int .i64 d] 50)
  have HB0 := Lib.hid hb0
  clear hb0
  go_enter Tryd.func63, Tryd.ntmps63
  go_wp2_with fail
  refine (hcc _).mono ?_
  rintro e w1 ⟨rfl, hb1⟩
  have HB := Lib.hid (HB0.out.trans (hb1.mono HB0.out.size))
  have k0 : w1.cell? ⟨w.heap.size, 1, none⟩ = some (.int .i64 b) := (hb1.cell (p := ⟨w.heap.size, 1, none⟩) (by simp)).trans (by go_simp)
  have hlt : w.heap.size < w1.heap.size := by have := hb1.size; simp at this; omega
  clear hb1 hcc
  cases hp : isP ⟨a, b, c, d⟩
  · rw [hp] at HR
    clear hr hp
    go_wp2
    go_ret
    exact ⟨by rw [HR.out]; rfl, HB.out⟩
  · rw [hp] at HR
    obtain ⟨_, ⟨b1, b2⟩, _⟩ := hr hp
    clear hr hp
    have hb : b = 1 ∨ b = 2 ∨ b = 3 := by omega
    rcases hb with rfl | rfl | rfl
    all_goals
      go_wp2
      go_ret
      exact ⟨by rw [HR.out]; rfl, HB.out.alloc HB.out.size _⟩
set_option maxHeartbeats 1000000 in
theorem spec_LongestClear (A : Option Addr) (n c B : Nat) (ps : List Pth) (w : World) (h : PthsAt w B A n ps) (hB : B ≤ w.heap.size) (hn : n ≤ 4294967296) :
    Calls Tryd.prog 47 #[.slice A n c] w fun e w' => e = .returned (.int .i64 (longC ps)) ∧ Below w.heap.size w w' := by
  have hl := h.1
  go_enter Tryd.func47, Tryd.ntmps47
  go_wp2
  go_loopw [3, 4] (fun x i wr => ∃ k : Nat, k ≤ n ∧ i = .int .i64 k ∧ x = .int .i64 (mostTo ps k) ∧ (0 < k → arePs ps = true) ∧ Below w.heap.size w wr) (fun _ i _ => n - (intOf i).toNat)
  case atStart => exact ⟨0, Nat.zero_le _, rfl, rfl, fun h => absurd h (by omega), Below.refl _ _⟩
  case round =>
    obtain ⟨k, hk, rfl, rfl, hgo, hbl⟩ := hrel
    have hsz := hbl.size
    have HG := Lib.hid hgo
    clear hgo
    by_cases hlt : k < n
    · go_wp2_with fail
      refine (spec_ArePaths A n c B ps wr (h.below (hbl.mono hB)) (by omega) hn).mono ?_
      rintro e w1 ⟨rfl, hb1⟩
      have hbl1 := hbl.trans (hb1.mono hsz)
      have hs1 := hbl1.size
      clear hb1 hbl
      cases ha : arePs ps
      · have hj0 : k = 0 := by
          have := HG.out
          rw [ha] at this
          by_cases e : 0 < k
          · cases this e
          · omega
        have HR : Hid (longC ps = mostTo ps 0) := Lib.hid (by unfold longC; rw [ha]; rfl)
        subst hj0
        clear ha
        go_wp2
        go_ret
        exact ⟨by rw [HR.out]; rfl, hbl1⟩
      · have HA := Lib.hid ha
        clear ha
        obtain ⟨ad, p, rfl, hab, hp, hq⟩ := h.at hlt
        obtain ⟨c0, c1, c2, c3⟩ := hq.below hbl1 (by omega)
        have HM : Hid (mostTo ps (k + 1) = maxI (mostTo ps k) (clearN p)) := Lib.hid (by show maxI _ (clearN (pAt ps k)) = _; rw [pAt_some hp])
        have hcc := spec_ClearOf p w1
        have hv : p.val = .agg #[.int .i64 p.id, .int .i64 p.kind, .int .i64 p.frm, .int .i64 p.to] := rfl
        rw [hv] at hcc
        generalize mostTo ps k = m at *
        clear hp hq hv
        go_wp2_with fail
        refine hcc.mono ?_
        rintro e w2 ⟨rfl, hb2⟩
        have hbl2 := hbl1.trans (hb2.mono hs1)
        clear hb2 hcc
        generalize clearN p = cn at *
        go_wp2_with (go_at_call 62; refine (spec_Max _ _ _).mono ?_; rintro e w' ⟨rfl, rfl⟩)
        go_roundw
        case rel => exact ⟨k + 1, by omega, by go_num, by rw [HM.out], fun _ => HA.out, hbl2⟩
        case measure => simp [intOf]; omega
    · obtain rfl : k = n := by omega
      have HR : Hid (longC ps = mostTo ps k) := Lib.hid (by
        unfold longC
        cases ha : arePs ps
        · by_cases e : 0 < k
          · rw [HG.out e] at ha; cases ha
          · obtain rfl : k = 0 := by omega
            rfl
        · rw [hl]; rfl)
      go_wp2
      go_ret
      exact ⟨by rw [HR.out]; try rfl, hbl⟩
end Go.Proofs.YtmpcbkonelcceaaDoor

/- Bit operations on numbers that are not negative; a path packed into one number. No program. -/
namespace Go.Proofs.YtmpcbkonelcceaaDoor
open Go.RowKit

theorem i64_wraps (n : Int) (h0 : 0 ≤ n) (h1 : n < 2 ^ 63) : IntKind.i64.wrap n = n := by
  have e : (2 : Int) ^ 63 = 9223372036854775808 := by decide
  rw [e] at h1
  rw [IntKind.wrap_i64]
  omega
theorem and3 (x : Int) (h0 : 0 ≤ x) (h1 : x < 65536) : bits .and .i64 x 3 = x % 4 := by
  have e : (2 : Int) ^ 63 = 9223372036854775808 := by decide
  have h := bits_mask .i64 63 (by decide) i64_wraps 2 (by decide) x h0 (by rw [e]; omega)
  have e2 : ((2 : Int) ^ 2 - 1) = 3 := by decide
  have e3 : ((2 : Int) ^ 2) = 4 := by decide
  rw [e2, e3] at h
  exact h
theorem or4 (x y : Int) (h0 : 0 ≤ x) (h1 : x < 65536) (hx : x % 4 = 0) (hy : 0 ≤ y) (hy1 : y < 4) : bits .or .i64 x y = x + y := by
  have e : (2 : Int) ^ 63 = 9223372036854775808 := by decide
  have e3 : ((2 : Int) ^ 2) = 4 := by decide
  exact bits_join .i64 63 (by decide) i64_wraps 2 x y h0 (by rw [e3]; exact hx) (by rw [e]; omega) hy (by rw [e3]; exact hy1) (by rw [e]; omega)
/-- a valid path as one number, in bits. -/
def packN (p : Pth) : Int := if isP p then ((p.id * 4 + p.kind) * 4 + p.frm) * 4 + p.to else 0
theorem packN_no {p : Pth} (h : isP p = false) : packN p = 0 := by unfold packN; rw [h]; rfl
theorem packN_yes {p : Pth} (h : isP p = true) : packN p = ((p.id * 4 + p.kind) * 4 + p.frm) * 4 + p.to ∧ 64 ≤ packN p ∧ packN p < 2048 := by
  have hf := isP_facts p h
  have e : packN p = ((p.id * 4 + p.kind) * 4 + p.frm) * 4 + p.to := by unfold packN; rw [h]; rfl
  refine ⟨e, ?_, ?_⟩ <;> rw [e] <;> omega
theorem packN_to {p : Pth} (h : isP p = true) : packN p % 4 = p.to := by have := isP_facts p h; rw [(packN_yes h).1]; omega
theorem packN_frm {p : Pth} (h : isP p = true) : packN p / 4 % 4 = p.frm := by have := isP_facts p h; rw [(packN_yes h).1]; omega
theorem packN_kind {p : Pth} (h : isP p = true) : packN p / 16 % 4 = p.kind := by have := isP_facts p h; rw [(packN_yes h).1]; omega
theorem packN_id {p : Pth} (h : isP p = true) : packN p / 64 = p.id := by have := isP_facts p h; rw [(packN_yes h).1]; omega
end Go.Proofs.YtmpcbkonelcceaaDoor

/- Chapter 4's functions of the program: valid paths, places, packed paths. -/
namespace Go.Proofs.YtmpcbkonelcceaaDoor
open Go.RowKit
set_option linter.unusedVariables false

theorem impl_isArm (a : Int) (w : World) : Calls Tryd.prog 100 #[.int .i64 a] w fun e w' => e = .returned (.bool (inB a 0 3)) ∧ w = w' := by
  go_enter Tryd.func100, Tryd.ntmps100
  go_wp2_with fail
  refine (impl_InRange _ _ _ _).mono ?_
  rintro e w1 ⟨rfl, rfl⟩
  go_wp2
  go_ret
  exact ⟨rfl, rfl⟩
theorem impl_IsPath (p : Pth) (w : World) : Calls Tryd.prog 88 #[p.val] w fun e w' => e = .returned (.bool (isP p)) ∧ Below w.heap.size w w' := by
  obtain ⟨a, b, c, d⟩ := p
  simp only [Pth.val]
  have HI : Hid (isP ⟨a, b, c, d⟩ = (inB a 1 20 && inB b 1 3 && inB c 0 3 && inB d 0 3 && (decide (c = d) == decide (b = 2)))) := Lib.hid rfl
  go_enter Tryd.func88, Tryd.ntmps88
  go_wp2_with fail
  refine (impl_InRange _ _ _ _).mono ?_
  rintro e w1 ⟨rfl, rfl⟩
  cases h0 : inB a 1 20
  · rw [h0] at HI
    go_wp2
    go_ret
    exact ⟨by rw [HI.out]; simp, (Below.refl _ _).alloc (Nat.le_refl _) _⟩
  · rw [h0] at HI
    go_wp2_with fail
    refine (impl_InRange _ _ _ _).mono ?_
    rintro e w1 ⟨rfl, rfl⟩
    cases h1 : inB b 1 3
    · rw [h1] at HI
      go_wp2
      go_ret
      exact ⟨by rw [HI.out]; simp, (Below.refl _ _).alloc (Nat.le_refl _) _⟩
    · rw [h1] at HI
      go_wp2_with fail
      refine (impl_isArm _ _).mono ?_
      rintro e w1 ⟨rfl, rfl⟩
      cases h2 : inB c 0 3
      · rw [h2] at HI
        go_wp2
        go_ret
        exact ⟨by rw [HI.out]; simp, (Below.refl _ _).alloc (Nat.le_refl _) _⟩
      · rw [h2] at HI
        go_wp2_with fail
        refine (impl_isArm _ _).mono ?_
        rintro e w1 ⟨rfl, rfl⟩
        cases h3 : inB d 0 3
        · rw [h3] at HI
          go_wp2
          go_ret
          exact ⟨by rw [HI.out]; first | (simp; done) | (simp; rfl), (Below.refl _ _).alloc (Nat.le_refl _) _⟩
        · rw [h3] at HI
          go_wp2
          go_ret
          exact ⟨by rw [HI.out]; first | (simp; done) | (simp; rfl), (Below.refl _ _).alloc (Nat.le_refl _) _⟩
theorem impl_InPlace (a : Int) (w : World) : Calls Tryd.prog 103 #[.int .i64 a] w fun e w' => e = .returned (.int .i64 (inPl a)) ∧ w = w' := by
  have HM : Hid (inPl a = if inB a 0 3 then _ else -1) := Lib.hid rfl
  cases h : inB a 0 3
  · rw [h] at HM
    go_enter Tryd.func103, Tryd.ntmps103
    go_wp2_with fail
    refine (impl_isArm _ _).mono ?_
    rintro e w1 ⟨rfl, rfl⟩
    rw [h]
    go_wp2
    go_ret
    exact ⟨by rw [HM.out]; rfl, rfl⟩
  · rw [h] at HM
    obtain ⟨h1, h2⟩ := inB_t h
    go_enter Tryd.func103, Tryd.ntmps103
    go_wp2_with fail
    refine (impl_isArm _ _).mono ?_
    rintro e w1 ⟨rfl, rfl⟩
    rw [h]
    go_wp2
    go_ret
    exact ⟨by rw [HM.out]; rfl, rfl⟩
theorem impl_OutPlace (a : Int) (w : World) : Calls Tryd.prog 104 #[.int .i64 a] w fun e w' => e = .returned (.int .i64 (outPl a)) ∧ w = w' := by
  have HM : Hid (outPl a = if inB a 0 3 then _ else -1) := Lib.hid rfl
  cases h : inB a 0 3
  · rw [h] at HM
    go_enter Tryd.func104, Tryd.ntmps104
    go_wp2_with fail
    refine (impl_isArm _ _).mono ?_
    rintro e w1 ⟨rfl, rfl⟩
    rw [h]
    go_wp2
    go_ret
    exact ⟨by rw [HM.out]; rfl, rfl⟩
  · rw [h] at HM
    obtain ⟨h1, h2⟩ := inB_t h
    go_enter Tryd.func104, Tryd.ntmps104
    go_wp2_with fail
    refine (impl_isArm _ _).mono ?_
    rintro e w1 ⟨rfl, rfl⟩
    rw [h]
    go_wp2
    go_ret
    exact ⟨by rw [HM.out]; rfl, rfl⟩
theorem impl_pack (p : Pth) (w : World) : Calls Tryd.prog 90 #[p.val] w fun e w' => e = .returned (.int .i64 (packN p)) ∧ Below w.heap.size w w' := by
  have hno := fun h => Lib.hid (packN_no (p := p) h)
  have hyes := fun h => (Lib.hid (packN_yes (p := p) h).1)
  have hr := isP_facts p
  obtain ⟨a, b, c, d⟩ := p
  have hv : (Pth.mk a b c d).val = .agg #[.int .i64 a, .int .i64 b, .int .i64 c, .int .i64 d] := rfl
  rw [hv]
  go_enter Tryd.func90, Tryd.ntmps90
  go_wp2_with fail
  refine (impl_IsPath ⟨a, b, c, d⟩ _).mono ?_
  rintro e w1 ⟨rfl, hb⟩
  have hb1 := ((Below.refl _ _).alloc (Nat.le_refl _) _).trans (hb.mono (by simp))
  have c0 : w1.cell? ⟨w.heap.size, 0, none⟩ = some (.int .i64 a) := boxed hb 0
  have c1 : w1.cell? ⟨w.heap.size, 1, none⟩ = some (.int .i64 b) := boxed hb 1
  have c2 : w1.cell? ⟨w.heap.size, 2, none⟩ = some (.int .i64 c) := boxed hb 2
  have c3 : w1.cell? ⟨w.heap.size, 3, none⟩ = some (.int .i64 d) := boxed hb 3
  clear hb
  cases hp : isP ⟨a, b, c, d⟩
  · have HN := hno hp
    clear hno hyes hr
    go_wp2
    go_ret
    exact ⟨by rw [HN.out]; rfl, hb1⟩
  · have HY := hyes hp
    obtain ⟨⟨g1, g2⟩, ⟨g3, g4⟩, ⟨g5, g6⟩, ⟨g7, g8⟩, _⟩ := hr hp
    have o1 : bits .or .i64 (a * 4) b = a * 4 + b := or4 _ _ (by omega) (by omega) (by omega) (by omega) (by omega)
    have o2 : bits .or .i64 ((a * 4 + b) * 4) c = (a * 4 + b) * 4 + c := or4 _ _ (by omega) (by omega) (by omega) (by omega) (by omega)
    have o3 : bits .or .i64 (((a * 4 + b) * 4 + c) * 4) d = ((a * 4 + b) * 4 + c) * 4 + d := or4 _ _ (by omega) (by omega) (by omega) (by omega) (by omega)
    clear hno hyes hr
    go_wp2
    go_ret
    exact ⟨by rw [HY.out]; rfl, hb1⟩
theorem impl_kind (v : Int) (w : World) (h0 : 0 ≤ v) (h1 : v < 65536) : Calls Tryd.prog 91 #[.int .i64 v] w fun e w' => e = .returned (.int .i64 (v / 16 % 4)) ∧ w = w' := by
  have o1 : bits .and .i64 (v / 16) 3 = v / 16 % 4 := and3 _ (by omega) (by omega)
  go_enter Tryd.func91, Tryd.ntmps91
  go_wp2
  go_ret
  exact ⟨rfl, rfl⟩
theorem impl_from (v : Int) (w : World) (h0 : 0 ≤ v) (h1 : v < 65536) : Calls Tryd.prog 93 #[.int .i64 v] w fun e w' => e = .returned (.int .i64 (v / 4 % 4)) ∧ w = w' := by
  have o1 : bits .and .i64 (v / 4) 3 = v / 4 % 4 := and3 _ (by omega) (by omega)
  go_enter Tryd.func93, Tryd.ntmps93
  go_wp2
  go_ret
  exact ⟨rfl, rfl⟩
theorem impl_to (v : Int) (w : World) (h0 : 0 ≤ v) (h1 : v < 65536) : Calls Tryd.prog 101 #[.int .i64 v] w fun e w' => e = .returned (.int .i64 (v % 4)) ∧ w = w' := by
  have o1 : bits .and .i64 v 3 = v % 4 := and3 _ (by omega) (by omega)
  go_enter Tryd.func101, Tryd.ntmps101
  go_wp2
  go_ret
  exact ⟨rfl, rfl⟩
end Go.Proofs.YtmpcbkonelcceaaDoor

/- Interleave: the program. -/
namespace Go.Proofs.YtmpcbkonelcceaaDoor
open Go.RowKit
set_option linter.unusedVariables false

/-- four different places. -/
def diff4 (a b c d : Int) : Bool := decide (a ≠ b ∧ a ≠ c ∧ a ≠ d ∧ b ≠ c ∧ b ≠ d ∧ c ≠ d) && inB a 0 7 && inB b 0 7 && inB c 0 7 && inB d 0 7
theorem inter_diff (a b c d : Int) : inter a b c d = (diff4 a b c d && (betw a c b != betw a d b)) := rfl
theorem diff4_four {a b c d : Int} (h : okNs [a, b, c, d] 4) : diff4 a b c d = true := by
  obtain ⟨⟨h0, h1, h2, h3⟩, h4⟩ := okNs_four h
  unfold diff4
  rw [h0, h1, h2, h3, decide_eq_true h4]
  rfl
theorem diff4_eq {a b c d : Int} {j k : Nat} (hk : k < j) (hj : j < 4) (h : [a, b, c, d].getD j 0 = [a, b, c, d].getD k 0) : diff4 a b c d = false := by
  have h4 : ¬ (a ≠ b ∧ a ≠ c ∧ a ≠ d ∧ b ≠ c ∧ b ≠ d ∧ c ≠ d) := by
    rintro ⟨e1, e2, e3, e4, e5, e6⟩
    match j, k, hk, hj with
    | 1, 0, _, _ => exact e1 (by simpa using h.symm)
    | 2, 0, _, _ => exact e2 (by simpa using h.symm)
    | 2, 1, _, _ => exact e4 (by simpa using h.symm)
    | 3, 0, _, _ => exact e3 (by simpa using h.symm)
    | 3, 1, _, _ => exact e5 (by simpa using h.symm)
    | 3, 2, _, _ => exact e6 (by simpa using h.symm)
  unfold diff4
  rw [decide_eq_false h4]
  simp
theorem diff4_out {a b c d : Int} {j : Nat} (hj : j < 4) (h : inB ([a, b, c, d].getD j 0) 0 7 = false) : diff4 a b c d = false := by
  unfold diff4
  match j, hj with
  | 0, _ => simp at h; simp [h]
  | 1, _ => simp at h; simp [h]
  | 2, _ => simp at h; simp [h]
  | 3, _ => simp at h; simp [h]
/-- which places the first k of these numbers have taken. -/
def takenL (l : List Int) (k : Nat) : List Value := (List.range 8).map fun (j : Nat) => Value.bool (decide ((j : Int) ∈ l.take k))
theorem takenL_length (l : List Int) (k : Nat) : (takenL l k).length = 8 := by simp [takenL]
theorem takenL_at (l : List Int) (k j : Nat) (h : j < 8) : (takenL l k)[j]? = some (Value.bool (decide ((j : Int) ∈ l.take k))) := by
  simp [takenL, h]
theorem takenL_set {l : List Int} {k : Nat} (h : k < l.length) {j : Nat} (hj : l.getD k 0 = j) : (takenL l k).set j (.bool true) = takenL l (k + 1) := by
  have e : l.take (k + 1) = l.take k ++ [(j : Int)] := by
    rw [List.take_add_one, List.getElem?_eq_getElem h]
    rw [List.getD_eq_getElem?_getD, List.getElem?_eq_getElem h] at hj
    simp at hj
    simp [hj]
  apply List.ext_getElem?
  intro i
  by_cases hi : i < 8
  · rw [takenL_at _ _ _ hi, e, List.getElem?_set]
    by_cases hij : j = i
    · subst hij
      rw [if_pos rfl, if_pos (by rw [takenL_length]; exact hi)]
      simp
    · rw [if_neg hij, takenL_at _ _ _ hi]
      have : ¬ ((i : Int) = (j : Int)) := by omega
      simp [this]
  · rw [List.getElem?_eq_none (by rw [List.length_set, takenL_length]; omega), List.getElem?_eq_none (by rw [takenL_length]; omega)]
theorem take_mem {l : List Int} {k : Nat} {x : Int} (h : x ∈ l.take k) : ∃ j, j < k ∧ l.getD j 0 = x := by
  obtain ⟨j, hj, e⟩ := List.getElem_of_mem h
  rw [List.length_take] at hj
  refine ⟨j, by omega, ?_⟩
  rw [List.getElem_take] at e
  rw [List.getD_eq_getElem?_getD, List.getElem?_eq_getElem (by omega)]
  simpa using e
theorem not_take {l : List Int} {k : Nat} (hk : k ≤ l.length) {x : Int} (h : ¬ x ∈ l.take k) : ∀ j, j < k → x ≠ l.getD j 0 := by
  intro j hj e
  apply h
  rw [List.getD_eq_getElem?_getD, List.getElem?_eq_getElem (by omega)] at e
  simp at e
  rw [e]
  exact List.mem_iff_getElem.2 ⟨j, by rw [List.length_take]; omega, by rw [List.getElem_take]⟩
theorem impl_areDifferentPlaces (b1 : Nat) (a b c d : Int) (w : World) (h : IntsAt .i64 w w.heap.size (some ⟨b1, 0, none⟩) 4 [a, b, c, d]) :
    Calls Tryd.prog 107 #[.slice (some ⟨b1, 0, none⟩) 4 4] w fun e w' => e = .returned (.bool (diff4 a b c d)) ∧ Below w.heap.size w w' := by
  have own0 : (w.alloc (.cells #[.bool false, .bool false, .bool false, .bool false, .bool false, .bool false, .bool false, .bool false] 117)).ownsRow w.heap.size 117 1 (.slice (some ⟨w.heap.size, 0, none⟩) 8 8) 8 (takenL [a, b, c, d] 0) :=
    World.ownsRow_lit (base := w.heap.size) (e := 117) (size := 1) w #[.bool false, .bool false, .bool false, .bool false, .bool false, .bool false, .bool false, .bool false] 8 (Nat.le_refl _) (by decide) rfl
  have hb0 : Below w.heap.size w (w.alloc (.cells #[.bool false, .bool false, .bool false, .bool false, .bool false, .bool false, .bool false, .bool false] 117)) := (Below.refl _ _).alloc (Nat.le_refl _) _
  obtain ⟨ad, e, hab, hcell⟩ := h.2 (by omega)
  injection e with e
  subst e
  simp only at hab
  clear h
  go_enter Tryd.func107, Tryd.ntmps107
  go_wp2
  go_loopw [8] (fun i wr => ∃ k : Nat, k ≤ 4 ∧ i = .int .i64 k ∧ okNs [a, b, c, d] k ∧ wr.ownsRow w.heap.size 117 1 (.slice (some ⟨w.heap.size, 0, none⟩) 8 8) 8 (takenL [a, b, c, d] k) ∧ Below w.heap.size w wr) (fun i _ => 4 - (intOf i).toNat)
  case atStart => exact ⟨0, by omega, rfl, fun j hj => absurd hj (by omega), own0, hb0⟩
  case round =>
    clear own0 hb0
    obtain ⟨k, hk, rfl, hok, hown, hbl⟩ := hrel
    by_cases hlt : k < 4
    · have hcell' := (hbl.cell (by rw [add_block]; exact hab)).trans (hcell k hlt)
      rw [add_head] at hcell'
      have HK := Lib.hid hok
      have HB := Lib.hid hbl
      cases hin : inB ([a, b, c, d].getD k 0) 0 7
      · have HR := Lib.hid (diff4_out hlt hin)
        have HI := Lib.hid hin
        clear hcell hok hown hin hbl
        generalize [a, b, c, d].getD k 0 = x at *
        go_wp2_with fail
        refine (impl_InRange _ _ _ _).mono ?_
        rintro e w1 ⟨rfl, rfl⟩
        rw [HI.out]
        go_wp2
        go_ret
        exact ⟨by rw [HR.out]; rfl, HB.out⟩
      · obtain ⟨x1, x2⟩ := inB_t hin
        obtain ⟨j, hj⟩ : ∃ j : Nat, [a, b, c, d].getD k 0 = (j : Int) := ⟨([a, b, c, d].getD k 0).toNat, by omega⟩
        have hj8 : j < 8 := by omega
        have hc := World.ownsRow.cellAt hown j (by omega)
        rw [takenL_at _ _ _ hj8] at hc
        have hf := World.ownsRow.frozenAt hown j
        have hst := (World.ownsRow.stored hown j (.bool true)).1
        rw [takenL_set (by simpa using hlt) hj] at hst
        have HI := Lib.hid hin
        by_cases hm : (j : Int) ∈ [a, b, c, d].take k
        · obtain ⟨i, hi, e⟩ := take_mem hm
          have HR := Lib.hid (diff4_eq hi hlt (hj.trans e.symm))
          rw [decide_eq_true hm] at hc
          clear hcell hok hown hin hbl hst hm e
          rw [hj] at hcell' HI
          clear hj x1 x2
          go_wp2_with fail
          refine (impl_InRange _ _ _ _).mono ?_
          rintro e w1 ⟨rfl, rfl⟩
          rw [HI.out]
          go_wp2
          go_ret
          exact ⟨by rw [HR.out]; rfl, HB.out⟩
        · have HN := Lib.hid (okNs_step hok hin (fun i hi e => not_take (l := [a, b, c, d]) (by simp; omega) hm i hi (hj.symm.trans e)))
          have HS := Lib.hid hst
          rw [decide_eq_false hm] at hc
          clear hcell hok hown hin hbl hst hm
          rw [hj] at hcell' HI
          clear hj x1 x2
          go_wp2_with fail
          refine (impl_InRange _ _ _ _).mono ?_
          rintro e w1 ⟨rfl, rfl⟩
          rw [HI.out]
          go_wp2
          go_roundw
          case rel => exact ⟨k + 1, by omega, by go_num, HN.out, HS.out, HB.out.setCell (Nat.le_refl _) _⟩
          case measure => simp [intOf]; omega
    · obtain rfl : k = 4 := by omega
      have HR := Lib.hid (diff4_four hok)
      clear hok hown hcell
      go_wp2
      go_ret
      exact ⟨by rw [HR.out]; rfl, hbl⟩
theorem impl_isMet (a b c : Int) (w : World) (ha : 0 ≤ a ∧ a ≤ 7) (hb : 0 ≤ b ∧ b ≤ 7) (hc : 0 ≤ c ∧ c ≤ 7) : Calls Tryd.prog 108 #[.int .i64 a, .int .i64 b, .int .i64 c] w fun e w' => e = .returned (.bool (betw a c b)) ∧ w = w' := by
  obtain ⟨a1, a2⟩ := ha
  obtain ⟨b1, b2⟩ := hb
  obtain ⟨c1, c2⟩ := hc
  have HB : Hid (betw a c b = decide ((c - a) % 8 < (b - a) % 8)) := Lib.hid rfl
  have e1 : Hid (modI (c - a) 8 = (c - a) % 8) := Lib.hid (by unfold modI; rfl)
  have e2 : Hid (modI (b - a) 8 = (b - a) % 8) := Lib.hid (by unfold modI; rfl)
  go_enter Tryd.func108, Tryd.ntmps108
  go_wp2_with fail
  refine (impl_Mod _ _ _).mono ?_
  rintro e w1 ⟨rfl, rfl⟩
  rw [e1.out]
  go_wp2_with fail
  refine (impl_Mod _ _ _).mono ?_
  rintro e w1 ⟨rfl, rfl⟩
  rw [e2.out]
  go_wp2
  go_ret
  exact ⟨by rw [HB.out]; rfl, rfl⟩
theorem impl_Interleave (a b c d : Int) (w : World) : Calls Tryd.prog 102 #[.int .i64 a, .int .i64 b, .int .i64 c, .int .i64 d] w fun e w' => e = .returned (.bool (inter a b c d)) ∧ Below w.heap.size w w' := by
  have own0 : Own .i64 3 (w.alloc (.cells #[.int .i64 a, .int .i64 b, .int .i64 c, .int .i64 d] 3)) w.heap.size (.slice (some ⟨w.heap.size, 0, none⟩) 4 4) [a, b, c, d] := own_lit w [a, b, c, d] 4 (Nat.le_refl _) (by decide) rfl
  have hb0 : Below w.heap.size w (w.alloc (.cells #[.int .i64 a, .int .i64 b, .int .i64 c, .int .i64 d] 3)) := (Below.refl _ _).alloc (Nat.le_refl _) _
  have HI := Lib.hid (inter_diff a b c d)
  have H0 := Lib.hid hb0
  have hd : diff4 a b c d = true → (0 ≤ a ∧ a ≤ 7) ∧ (0 ≤ b ∧ b ≤ 7) ∧ (0 ≤ c ∧ c ≤ 7) ∧ (0 ≤ d ∧ d ≤ 7) := by
    intro h
    simp only [diff4, inB, Bool.and_eq_true, decide_eq_true_eq] at h
    obtain ⟨⟨⟨⟨_, h1⟩, h2⟩, h3⟩, h4⟩ := h
    exact ⟨h1, h2, h3, h4⟩
  have HO := own0.ints
  clear own0 hb0
  go_enter Tryd.func102, Tryd.ntmps102
  go_wp2_with fail
  refine (impl_areDifferentPlaces _ a b c d _ HO).mono ?_
  rintro e w1 ⟨rfl, hb⟩
  have HB := Lib.hid (H0.out.trans (hb.mono H0.out.size))
  clear hb HO
  cases hdd : diff4 a b c d
  · rw [hdd] at HI
    clear hd
    go_wp2
    go_ret
    exact ⟨by rw [HI.out]; rfl, HB.out⟩
  · rw [hdd] at HI
    obtain ⟨ha, hb, hc, hd⟩ := hd hdd
    go_wp2_with fail
    refine (impl_isMet _ _ _ _ ha hb hc).mono ?_
    rintro e w1 ⟨rfl, rfl⟩
    go_wp2_with fail
    refine (impl_isMet _ _ _ _ ha hb hd).mono ?_
    rintro e w1 ⟨rfl, rfl⟩
    go_wp2
    go_ret
    exact ⟨by rw [HI.out]; rfl, HB.out⟩
end Go.Proofs.YtmpcbkonelcceaaDoor

/- Chapter 5's program: lists of paths, conflicts. -/
namespace Go.Proofs.YtmpcbkonelcceaaDoor
open Go.RowKit
set_option linter.unusedVariables false

/-- the Id of the path before the k-th. -/
def lastI (ps : List Pth) : Nat → Int
  | 0 => 0
  | m + 1 => match ps[m]? with | none => 0 | some q => q.id
theorem lastI_succ {ps : List Pth} {k : Nat} {p : Pth} (h : ps[k]? = some p) : lastI ps (k + 1) = p.id := by simp [lastI, h]
theorem goodAt_last {ps : List Pth} {k : Nat} {p : Pth} (h : ps[k]? = some p) : goodAt ps k = (isP p && decide (lastI ps k < p.id)) := by
  unfold goodAt
  rw [h]
  have hlt := (List.getElem?_eq_some_iff.1 h).1
  cases k with
  | zero =>
    cases hv : isP p
    · simp [hv]
    · have h1 := (isP_facts p hv).1
      have h0 : lastI ps 0 < p.id := by show (0 : Int) < p.id; omega
      rw [decide_eq_true h0]
      simp [hv]
  | succ m =>
    have h2 : ps[m]? = some ps[m] := List.getElem?_eq_getElem (by omega)
    simp [lastI, h2]
theorem goodAt_step {ps : List Pth} {k : Nat} (h : ∀ j, j < k → goodAt ps j = true) (h2 : goodAt ps k = true) : ∀ j, j < k + 1 → goodAt ps j = true := by
  intro j hj
  by_cases e : j = k
  · subst e; exact h2
  · exact h j (by omega)
theorem arePs_big {ps : List Pth} (h : 12 < ps.length) : arePs ps = false := by
  unfold arePs
  rw [decide_eq_false (by omega), Bool.and_false]
theorem PthAt.plain {w : World} {q : Addr} {p : Pth} (h : PthAt w q p) : w.cell? q = some (.int .i64 p.id) ∧ w.cell? ⟨q.block, q.off + 1, none⟩ = some (.int .i64 p.kind) ∧ w.cell? ⟨q.block, q.off + 2, none⟩ = some (.int .i64 p.frm) ∧ w.cell? ⟨q.block, q.off + 3, none⟩ = some (.int .i64 p.to) := ⟨h.c0, h.c1, h.c2, h.c3⟩
set_option maxHeartbeats 1000000 in
set_option maxRecDepth 100000 in
theorem impl_ArePaths (A : Option Addr) (n c B : Nat) (ps : List Pth) (w : World) (h : PthsAt w B A n ps) (hB : B ≤ w.heap.size) (hn : n ≤ 4294967296) :
    Calls Tryd.prog 71 #[.slice A n c] w fun e w' => e = .returned (.bool (arePs ps)) ∧ Below w.heap.size w w' := by
  have hl := h.1
  by_cases hbig : 12 < n
  · have HR := Lib.hid (arePs_big (ps := ps) (by omega))
    go_enter Tryd.func71, Tryd.ntmps71
    go_wp2
    go_ret
    exact ⟨by rw [HR.out]; rfl, Below.refl _ _⟩
  · go_enter Tryd.func71, Tryd.ntmps71
    go_wp2
    go_loopw [11, 3] (fun i x wr => ∃ k : Nat, k ≤ n ∧ i = .int .i64 k ∧ x = .int .i64 (lastI ps k) ∧ (∀ j, j < k → goodAt ps j = true) ∧ Below w.heap.size w wr) (fun i _ _ => n - (intOf i).toNat)
    case atStart => exact ⟨0, Nat.zero_le _, rfl, rfl, fun j hj => absurd hj (by omega), Below.refl _ _⟩
    case round =>
      obtain ⟨k, hk, rfl, rfl, hgo, hbl⟩ := hrel
      have hsz := hbl.size
      by_cases hlt : k < n
      · obtain ⟨ad, p, rfl, hab, hp, hq⟩ := h.at hlt
        obtain ⟨c0, c1, c2, c3⟩ := (hq.below hbl (by omega)).plain
        have i1 : (0 : Int) ≤ (k : Int) := by omega
        have i2 : (k : Int) < (n : Int) := by omega
        have HG := Lib.hid (goodAt_last hp)
        have HL := Lib.hid (lastI_succ hp)
        have hv : p.val = .agg #[.int .i64 p.id, .int .i64 p.kind, .int .i64 p.frm, .int .i64 p.to] := rfl
        obtain ⟨y, hy⟩ : ∃ y, lastI ps k = y := ⟨_, rfl⟩
        rw [hy] at HG
        have HB0 := Lib.hid hbl
        have HGO := Lib.hid hgo
        have hcc := fun x => impl_IsPath p x
        rw [hv] at hcc
        rw [hy]
        clear hq hy hbl hgo hv
        go_wp2_with fail
        refine (hcc _).mono ?_
        rintro e w1 ⟨rfl, hb⟩
        have hb1 := hb.cell (p := ⟨wr.heap.size, 0, none⟩) (by simp)
        have hB1 := Lib.hid (HB0.out.trans ((((Below.refl _ _).alloc (Nat.le_refl _) _).trans (hb.mono (by simp))).mono HB0.out.size))
        have d0 : w1.cell? ⟨wr.heap.size, 0, none⟩ = some (.int .i64 p.id) := hb1.trans (by go_simp)
        clear hb hb1 hcc
        cases hvp : isP p
        · have HR := Lib.hid (arePs_no (ps := ps) (k := k) (by omega) (by rw [HG.out, hvp]; rfl))
          clear HG
          go_wp2
          go_ret
          exact ⟨by rw [HR.out]; rfl, hB1.out⟩
        · by_cases hle : p.id ≤ y
          · have HR := Lib.hid (arePs_no (ps := ps) (k := k) (by omega) (by rw [HG.out, decide_eq_false (by omega)]; simp))
            clear HG
            go_wp2
            go_ret
            exact ⟨by rw [HR.out]; rfl, hB1.out⟩
          · have HN := Lib.hid (goodAt_step HGO.out (by rw [HG.out, hvp, decide_eq_true (by omega)]; rfl))
            clear HG
            go_wp2
            go_roundw
            case rel => exact ⟨k + 1, by omega, by go_num, by rw [HL.out], HN.out, hB1.out⟩
            case measure => simp [intOf]; omega
      · obtain rfl : k = n := by omega
        have HR := Lib.hid (arePs_end (ps := ps) (fun j hj => hgo j (by omega)))
        clear hgo
        go_wp2
        go_ret
        exact ⟨by rw [HR.out, hl, decide_eq_true (p := k ≤ 12) (by omega)]; rfl, hbl⟩
set_option maxRecDepth 100000 in
theorem impl_isAt (p : Pth) (hp : isP p = true) (arm : Int) (w : World) : Calls Tryd.prog 92 #[.int .i64 (packN p), .int .i64 arm] w fun e w' => e = .returned (.bool (decide (p.frm = arm) || decide (p.to = arm))) ∧ w = w' := by
  obtain ⟨-, h0, h1⟩ := packN_yes hp
  have e1 := Lib.hid (packN_frm hp)
  have e2 := Lib.hid (packN_to hp)
  generalize packN p = v at *
  by_cases ha : p.frm = arm
  · have HE : Hid ((decide (p.frm = arm) || decide (p.to = arm)) = true) := Lib.hid (by simp [ha])
    have b1 : (p.frm == arm) = true := by simpa using ha
    clear ha
    go_enter Tryd.func92, Tryd.ntmps92
    go_wp2_with fail
    refine (impl_from _ _ (by omega) (by omega)).mono ?_
    rintro e w1 ⟨rfl, rfl⟩
    rw [e1.out]
    go_wp2
    go_ret
    exact ⟨by rw [HE.out]; rfl, rfl⟩
  · have HE : Hid ((decide (p.frm = arm) || decide (p.to = arm)) = (p.to == arm)) := Lib.hid (by simp [ha]; rfl)
    have b1 : (p.frm == arm) = false := by simpa using ha
    clear ha
    go_enter Tryd.func92, Tryd.ntmps92
    go_wp2_with fail
    refine (impl_from _ _ (by omega) (by omega)).mono ?_
    rintro e w1 ⟨rfl, rfl⟩
    rw [e1.out]
    go_wp2_with fail
    refine (impl_to _ _ (by omega) (by omega)).mono ?_
    rintro e w1 ⟨rfl, rfl⟩
    rw [e2.out]
    go_wp2
    go_ret
    exact ⟨by rw [HE.out]; rfl, rfl⟩
/-- what meets answers. -/
def meetB (p q : Pth) : Bool := if p.frm ≠ q.frm ∧ p.to = q.to then true else inter (inPl p.frm) (outPl p.to) (inPl q.frm) (outPl q.to)
set_option maxRecDepth 100000 in
theorem impl_meets (p q : Pth) (hp : isP p = true) (hq : isP q = true) (w : World) : Calls Tryd.prog 94 #[.int .i64 (packN p), .int .i64 (packN q)] w fun e w' => e = .returned (.bool (meetB p q)) ∧ Below w.heap.size w w' := by
  obtain ⟨-, h0, h1⟩ := packN_yes hp
  obtain ⟨-, h2, h3⟩ := packN_yes hq
  have e1 := Lib.hid (packN_frm hp)
  have e2 := Lib.hid (packN_to hp)
  have e3 := Lib.hid (packN_frm hq)
  have e4 := Lib.hid (packN_to hq)
  generalize packN p = v at *
  generalize packN q = u at *
  have HM : Hid (meetB p q = if p.frm ≠ q.frm ∧ p.to = q.to then true else inter (inPl p.frm) (outPl p.to) (inPl q.frm) (outPl q.to)) := Lib.hid rfl
  generalize meetB p q = m at *
  generalize p.frm = x1 at *
  generalize p.to = x2 at *
  generalize q.frm = x3 at *
  generalize q.to = x4 at *
  have hm1 : ∀ h : x1 = x3, Hid (m = inter (inPl x1) (outPl x2) (inPl x3) (outPl x4)) := fun h => Lib.hid (by rw [HM.out, if_neg (fun h' => h'.1 h)])
  have hm2 : ∀ h : ¬ x2 = x4, Hid (m = inter (inPl x1) (outPl x2) (inPl x3) (outPl x4)) := fun h => Lib.hid (by rw [HM.out, if_neg (fun h' => h h'.2)])
  have hm3 : ∀ (h : ¬ x1 = x3) (h' : x2 = x4), Hid (m = true) := fun h h' => Lib.hid (by rw [HM.out, if_pos ⟨h, h'⟩])
  by_cases ha : x1 = x3
  all_goals
    by_cases hb : x2 = x4
    all_goals
      first
        | have HQ := hm1 ha
        | have HQ := hm2 hb
        | have HQ := hm3 ha hb
      clear hm1 hm2 hm3 HM
      have b1 : (x1 != x3) = !decide (x1 = x3) := by by_cases e : x1 = x3 <;> simp [e]
      have b2 : (x2 == x4) = decide (x2 = x4) := by by_cases e : x2 = x4 <;> simp [e]
      first | rw [decide_eq_false ha] at b1 | rw [decide_eq_true ha] at b1
      first | rw [decide_eq_true hb] at b2 | rw [decide_eq_false hb] at b2
      clear ha hb
      go_enter Tryd.func94, Tryd.ntmps94
      go_wp2_with fail
      refine (impl_from _ _ (by omega) (by omega)).mono ?_
      rintro e w1 ⟨rfl, rfl⟩
      rw [e1.out]
      go_wp2_with fail
      refine (impl_from _ _ (by omega) (by omega)).mono ?_
      rintro e w1 ⟨rfl, rfl⟩
      rw [e3.out]
      go_wp2_with
        (first
          | (go_at_call 101; refine (impl_to v _ (by omega) (by omega)).mono ?_; rintro e w1 ⟨rfl, rfl⟩; rw [e2.out])
          | (go_at_call 101; refine (impl_to u _ (by omega) (by omega)).mono ?_; rintro e w1 ⟨rfl, rfl⟩; rw [e4.out])
          | (go_at_call 93; refine (impl_from v _ (by omega) (by omega)).mono ?_; rintro e w1 ⟨rfl, rfl⟩; rw [e1.out])
          | (go_at_call 93; refine (impl_from u _ (by omega) (by omega)).mono ?_; rintro e w1 ⟨rfl, rfl⟩; rw [e3.out])
          | (go_at_call 103; refine (impl_InPlace _ _).mono ?_; rintro e w1 ⟨rfl, rfl⟩)
          | (go_at_call 104; refine (impl_OutPlace _ _).mono ?_; rintro e w1 ⟨rfl, rfl⟩)
          | (go_at_call 102; refine (impl_Interleave _ _ _ _ _).mono ?_; rintro e w1 ⟨rfl, hbb⟩))
      go_ret
      first
        | exact ⟨by rw [HQ.out]; rfl, Below.refl _ _⟩
        | exact ⟨by rw [HQ.out]; rfl, hbb⟩
theorem conf_walk1 {p q : Pth} (hp : isP p = true) (hq : isP q = true) (h1 : p.kind = 2) (h2 : q.kind = 2) : conf p q = false := by unfold conf; rw [hp, hq, decide_eq_true h1, decide_eq_true h2]; rfl
theorem conf_walk2 {p q : Pth} (hp : isP p = true) (hq : isP q = true) (h1 : p.kind = 2) (h2 : ¬ q.kind = 2) : conf p q = (decide (q.frm = p.frm) || decide (q.to = p.frm)) := by unfold conf; rw [hp, hq, decide_eq_true h1, decide_eq_false h2, if_pos (by rfl), if_pos h1]
theorem conf_walk3 {p q : Pth} (hp : isP p = true) (hq : isP q = true) (h1 : ¬ p.kind = 2) (h2 : q.kind = 2) : conf p q = (decide (p.frm = q.frm) || decide (p.to = q.frm)) := by unfold conf; rw [hp, hq, decide_eq_false h1, decide_eq_true h2, if_pos (by rfl), if_neg h1, if_pos h2]
theorem conf_walk4 {p q : Pth} (hp : isP p = true) (hq : isP q = true) (h1 : ¬ p.kind = 2) (h2 : ¬ q.kind = 2) : conf p q = meetB p q := by
  unfold conf meetB
  rw [hp, hq, decide_eq_false h1, decide_eq_false h2, if_pos (by rfl), if_neg h1, if_neg h2]
  by_cases e1 : p.frm = q.frm
  · rw [if_pos e1, if_neg (fun h => h.1 e1), e1]
    exact (inter_eq (j := 2) (k := 0) (by decide) (by decide) rfl).symm
  · rw [if_neg e1]
    by_cases e2 : p.to = q.to
    · rw [if_pos e2, if_pos ⟨e1, e2⟩]
    · rw [if_neg e2, if_neg (fun h => e2 h.2)]
theorem conf_no1 {p q : Pth} (h : isP p = false) : conf p q = false := conf_no (by rw [h]; rfl)
theorem conf_no2 {p q : Pth} (h : isP q = false) : conf p q = false := conf_no (by rw [h]; simp)
set_option maxHeartbeats 1000000 in
set_option maxRecDepth 100000 in
theorem impl_Conflict (p q : Pth) (w : World) : Calls Tryd.prog 73 #[p.val, q.val] w fun e w' => e = .returned (.bool (conf p q)) ∧ Below w.heap.size w w' := by
  have hn1 := fun h => Lib.hid (conf_no1 (p := p) (q := q) h)
  have hn2 := fun h => Lib.hid (conf_no2 (p := p) (q := q) h)
  have hw1 := fun hp hq h1 h2 => Lib.hid (conf_walk1 (p := p) (q := q) hp hq h1 h2)
  have hw2 := fun hp hq h1 h2 => Lib.hid (conf_walk2 (p := p) (q := q) hp hq h1 h2)
  have hw3 := fun hp hq h1 h2 => Lib.hid (conf_walk3 (p := p) (q := q) hp hq h1 h2)
  have hw4 := fun hp hq h1 h2 => Lib.hid (conf_walk4 (p := p) (q := q) hp hq h1 h2)
  generalize conf p q = r at *
  have hk1 := fun hp => Lib.hid (packN_kind (p := p) hp)
  have hk2 := fun hp => Lib.hid (packN_kind (p := q) hp)
  have hf1 := fun hp => Lib.hid (packN_frm (p := p) hp)
  have hf2 := fun hp => Lib.hid (packN_frm (p := q) hp)
  have hy1 := fun hp => (packN_yes (p := p) hp).2
  have hy2 := fun hp => (packN_yes (p := q) hp).2
  have hz1 := fun hp => packN_no (p := p) hp
  have hz2 := fun hp => packN_no (p := q) hp
  have hcp := fun x => impl_pack p x
  have hcq := fun x => impl_pack q x
  have ha1 := fun hp arm x => impl_isAt p hp arm x
  have ha2 := fun hp arm x => impl_isAt q hp arm x
  have hm := fun hp hq x => impl_meets p q hp hq x
  generalize meetB p q = mb at *
  generalize packN p = v at *
  generalize packN q = u at *
  generalize hpp : isP p = ip at *
  generalize hqq : isP q = iq at *
  clear hpp hqq
  obtain ⟨a, b, c, d⟩ := p
  obtain ⟨a', b', c', d'⟩ := q
  simp only [Pth.val] at *
  go_enter Tryd.func73, Tryd.ntmps73
  go_wp2
  have hz := Lib.hid (fun x : GW ((w.alloc (.cells #[.int .i64 a, .int .i64 b, .int .i64 c, .int .i64 d] 50)).alloc (.cells #[.int .i64 a', .int .i64 b', .int .i64 c', .int .i64 d'] 50)) => boxed_two (p := ⟨a, b, c, d⟩) (q := ⟨a', b', c', d'⟩) x.ok)
  have x0 := fun x => (pth_head (hz.out x).1).1
  have x1 := fun x => (pth_head (hz.out x).1).2.1
  have x2 := fun x => (pth_head (hz.out x).1).2.2.1
  have x3 := fun x => (pth_head (hz.out x).1).2.2.2
  have y0 := fun x => (pth_head (hz.out x).2.1).1
  have y1 := fun x => (pth_head (hz.out x).2.1).2.1
  have y2 := fun x => (pth_head (hz.out x).2.1).2.2.1
  have y3 := fun x => (pth_head (hz.out x).2.1).2.2.2
  simp only at x0 x1 x2 x3 y0 y1 y2 y3
  have hzb := Lib.hid (fun x => (hz.out x).2.2.2)
  clear hz
  refine wp_region_grow (by kernel_rfl) (by kernel_rfl) ?_
  repeat (go_big_quiet_step (first | (go_at_call 90; (first | with_reducible exact calls_gw _ (hcp _) | with_reducible exact calls_gw _ (hcq _)))))
  refine wpQuiet_nil ?_
  intro x5
  have HB := Lib.hid (hzb.out x5)
  clear hzb x0 x1 x2 x3 y0 y1 y2 y3 hcp hcq
  generalize x5.val = w3 at *
  cases ip
  · have HR := hn1 rfl
    obtain rfl := hz1 rfl
    clear hz1 hz2 hn1 hn2 hw1 hw2 hw3 hw4 hm ha1 ha2 hk1 hk2 hf1 hf2 hy1 hy2
    go_wp2
    go_ret
    exact ⟨by rw [HR.out]; rfl, HB.out⟩
  obtain ⟨v0, v1⟩ := hy1 rfl
  have vz : (v == 0) = false := by simp; omega
  have gk1 := hk1 rfl
  have gf1 := hf1 rfl
  clear hy1
  cases iq
  · have HR := hn2 rfl
    obtain rfl := hz2 rfl
    clear hz1 hz2 hn1 hn2 hw1 hw2 hw3 hw4 hm ha1 ha2 hk1 hk2 hf1 hf2 hy2
    go_wp2
    go_ret
    exact ⟨by rw [HR.out]; rfl, HB.out⟩
  obtain ⟨u0, u1⟩ := hy2 rfl
  have uz : (u == 0) = false := by simp; omega
  have gk2 := hk2 rfl
  have gf2 := hf2 rfl
  have ga1 := Lib.hid (ha1 rfl)
  have ga2 := Lib.hid (ha2 rfl)
  have gm := Lib.hid (hm rfl rfl)
  clear hk1 hk2 hf1 hf2 ha1 ha2 hm
  have kv := Lib.hid (fun x => impl_kind v x (by omega) (by omega))
  have ku := Lib.hid (fun x => impl_kind u x (by omega) (by omega))
  have fv := Lib.hid (fun x => impl_from v x (by omega) (by omega))
  have fu := Lib.hid (fun x => impl_from u x (by omega) (by omega))
  clear hz1 hz2 hn1 hn2 hy2
  by_cases e1 : b = 2
  all_goals
    by_cases e2 : b' = 2
    all_goals
      first
        | have HQ := hw1 rfl rfl e1 e2
        | have HQ := hw2 rfl rfl e1 e2
        | have HQ := hw3 rfl rfl e1 e2
        | have HQ := hw4 rfl rfl e1 e2
      clear hw1 hw2 hw3 hw4
      have b1 : (b == 2) = decide (b = 2) := by by_cases e : b = 2 <;> simp [e]
      have b2 : (b' == 2) = decide (b' = 2) := by by_cases e : b' = 2 <;> simp [e]
      have b3 : (b' != 2) = !decide (b' = 2) := by by_cases e : b' = 2 <;> simp [e]
      first | rw [decide_eq_true e1] at b1 | rw [decide_eq_false e1] at b1
      first | rw [decide_eq_true e2] at b2 b3 | rw [decide_eq_false e2] at b2 b3
      clear e1 e2
      go_wp2_with
        (first
          | (go_at_call 91; (with_reducible refine (kv.out _).mono ?_); rintro e w1 ⟨rfl, rfl⟩; rw [gk1.out])
          | (go_at_call 91; (with_reducible refine (ku.out _).mono ?_); rintro e w1 ⟨rfl, rfl⟩; rw [gk2.out])
          | (go_at_call 93; (with_reducible refine (fv.out _).mono ?_); rintro e w1 ⟨rfl, rfl⟩; rw [gf1.out])
          | (go_at_call 93; (with_reducible refine (fu.out _).mono ?_); rintro e w1 ⟨rfl, rfl⟩; rw [gf2.out])
          | (go_at_call 92; (with_reducible refine (ga1.out _ _).mono ?_); rintro e w1 ⟨rfl, rfl⟩)
          | (go_at_call 92; (with_reducible refine (ga2.out _ _).mono ?_); rintro e w1 ⟨rfl, rfl⟩)
          | (go_at_call 94; (with_reducible refine (gm.out _).mono ?_); rintro e w1 ⟨rfl, hbb⟩))
      go_ret
      first
        | exact ⟨by rw [HQ.out]; rfl, HB.out⟩
        | exact ⟨by rw [HQ.out]; rfl, HB.out.trans (hbb.mono HB.out.size)⟩
end Go.Proofs.YtmpcbkonelcceaaDoor

/- One step for every law of a seat: out of a walk that ends in 'true' and leaves all that was there as it was, the lifted statement of its row. -/
namespace Go.Proofs.YtmpcbkonelcceaaDoor
open Go.ChangeShapes Go.WideShapes Go.ChangeAt Go.RowKit

theorem knobless : ownKnob Tryd.prog.godebug = none := by kernel_rfl
theorem laidOutAll : laidOutB Tryd.prog = true := by kernel_rfl

section
variable {H : Type} {enc : TypeId × Value → H} {P : Program}

theorem trodAll_stays (hl : laidOutB P = true) {W W' : World} (hb : Below W.heap.size W W') :
    ∀ (ts : List TypeId) (vs : List Value) (ds : List (DataW H)) (ps : List MemPlace), (ts.all fun t => P.readableRec t && decide (t < P.types.size)) = true →
      DataW.TrodAll enc P W 0 (fun _ => true) true ts vs ds ps → (∀ x ∈ ps, x.block < W.heap.size) → DataW.TrodAll enc P W' 0 (fun b => decide (b < W.heap.size)) true ts vs ds ps
  | [], [], [], _, _, h, _ => h
  | [], _ :: _, _, _, _, h, _ => by simp [DataW.TrodAll] at h
  | [], [], _ :: _, _, _, h, _ => by simp [DataW.TrodAll] at h
  | _ :: _, [], _, _, _, h, _ => by simp [DataW.TrodAll] at h
  | _ :: _, _ :: _, [], _, _, h, _ => by simp [DataW.TrodAll] at h
  | t :: ts, v :: vs, d :: ds, ps, hr, h, hlt => by
    obtain ⟨p, q, h1, h2, rfl⟩ := h
    simp only [List.all_cons, Bool.and_eq_true, decide_eq_true_eq] at hr
    exact ⟨p, q, Below.trod hl hr.1.1 hr.1.2 h1 hb (fun x hx => hlt x (List.mem_append_left _ hx)),
      trodAll_stays hl hb ts vs ds q (by simpa using hr.2) h2 (fun x hx => hlt x (List.mem_append_right _ hx)), rfl⟩

theorem trodAll_length {W : World} {base : Nat} {sp : Nat → Bool} {hd : Bool} :
    ∀ (ts : List TypeId) (vs : List Value) (ds : List (DataW H)) (ps : List MemPlace), DataW.TrodAll enc P W base sp hd ts vs ds ps → ds.length = ts.length
  | [], [], [], _, _ => rfl
  | [], _ :: _, _, _, h => by simp [DataW.TrodAll] at h
  | [], [], _ :: _, _, h => by simp [DataW.TrodAll] at h
  | _ :: _, [], _, _, h => by simp [DataW.TrodAll] at h
  | _ :: _, _ :: _, [], _, h => by simp [DataW.TrodAll] at h
  | _ :: ts, _ :: vs, _ :: ds, ps, h => by
    obtain ⟨_, q, _, h2, _⟩ := h
    simp [trodAll_length ts vs ds q h2]

/-- A slice of integers that came in. -/
theorem arg_ints {t e : TypeId} {k : IntKind} {W : World} {base : Nat} {v : Value} {d : DataW H} {ps : List MemPlace} (ht : P.underlying t = some (.slice e)) (he : P.underlying e = some (.int k)) (hc : P.cellsOf e = 1)
    (hval : Value.okWide P W .any base t v) (hd : DataW.Trod enc P W 0 (fun _ => true) true t v d ps) (hlt : ∀ x ∈ ps, x.block < W.heap.size) :
    ∃ (A : Option Addr) (n c : Nat) (zs : List Int), v = .slice A n c ∧ (IntsAt k W W.heap.size A n zs ∧ (∀ z ∈ zs, (Lit.int k z).wf = true) ∧ n ≤ c ∧ c ≤ maxLen) := by
  obtain ⟨a, len, cap, rfl⟩ := okWide_slice ht hval
  obtain ⟨fuel, hf⟩ := hd
  rcases open_ints ht he hc hf with ⟨h1, _⟩ | ⟨a', len', cap', zs, h1, _, hl, hm, hzl, hx, hcell, hwf⟩
  · have h1' : [Value.slice a len cap] = [Value.slice none 0 0] := h1
    simp only [List.cons.injEq, and_true] at h1'
    exact ⟨none, 0, 0, [], h1', ⟨rfl, fun h => absurd h (by omega)⟩, by simp, Nat.le_refl _, Nat.zero_le _⟩
  · have h1' : [Value.slice a len cap] = [Value.slice (some a') len' cap'] := h1
    simp only [List.cons.injEq, and_true] at h1'
    rw [if_pos rfl] at hzl
    refine ⟨some a', len', cap', zs.take len', h1', ⟨by simp; omega, fun hn => ⟨a', rfl, ?_, fun j hj => ?_⟩⟩, fun z hz => hwf z (List.mem_of_mem_take hz), hl, hm⟩
    · have hmem : MemPlace.cell a'.block (a'.off + 0) ∈ ps := by
        have e := congrArg Prod.snd hx
        simp only at e
        rw [e]
        exact List.mem_map.2 ⟨0, List.mem_range.2 (by omega), rfl⟩
      exact hlt _ hmem
    · rw [hcell j (by omega)]
      simp [List.getD_eq_getElem?_getD, hj]
theorem u8_of_wf {n : Int} (h : (Lit.int .u8 n).wf = true) : 0 ≤ n ∧ n ≤ 255 := by
  have h' : (decide (IntKind.u8.min ≤ n) && decide (n ≤ IntKind.u8.max)) = true := h
  simp only [Bool.and_eq_true, decide_eq_true_eq] at h'
  exact h'

/-- What the row asks of a law: its answer is true, its arguments read as they did. -/
theorem post_law {f : Func} {s : ChangeSpec} {tb : TypeId} {W W' : World} {args : Array Value} {ds gs : List (DataW H)} {before : List MemPlace}
    (hv : s.vars = []) (hf : f.resultTypes = #[tb]) (ub : P.underlying tb = some .bool) (hl : laidOutB P = true)
    (hr : (f.params.toList.all fun t => P.readableRec t && decide (t < P.types.size)) = true)
    (hW : DataW.Whole enc P f.params.toList s.vars false W args.toList ds gs before)
    (hs : s.fn H (ds ++ gs) = { results := [.lit (.bool true)], args := ds }) (hb : Below W.heap.size W W') :
    s.post enc P f false true false false W args (.bool true) W' := by
  have hW0 := hW
  obtain ⟨p, q, hA, hV, rfl, hz, hn⟩ := hW
  rw [hv] at hV
  have hgs : gs = [] ∧ q = [] := by
    cases gs with
    | nil => exact ⟨rfl, hV⟩
    | cons g r => exact absurd hV (by intro h; cases h)
  obtain ⟨rfl, rfl⟩ := hgs
  have hlt : ∀ x ∈ p ++ [], x.block < W.heap.size := fun x hx => hW0.lt x hx
  refine ⟨ds, [], _, [], p, [], hW0, ?_, ?_, ?_, hb.frame _, fun h => by cases h⟩
  · rw [hs, hf]
    exact trodAll_mk1 (shut_bool ub true)
  · rw [hs]
    exact trodAll_stays hl hb _ _ _ _ hr hA (fun x hx => hlt x (by simpa using hx))
  · rw [hs, hv]
    rfl
end

/-- The law's row, lifted, out of its walk. -/
theorem law_lifted {H : Type} {enc : TypeId × Value → H} {C : Checked} {os : Os} {k : FuncId} {fn : Func} {s : ChangeSpec} {tb : TypeId}
    (own : ownKnob C.prog.godebug = none) (started : os.Started) (noInit : C.prog.inits.idxOf? k = none) (hfn : C.prog.funcs[k]? = some fn)
    (witness : ∃ (w : World) (tape : Tape) (i : Input), w.os = os ∧ (w.forCall tape i).Shaped C.prog ∧ i.vars = [] ∧ Input.okWide C.prog (w.forCall tape i) .any w.heap.size k i ∧
      s.pre6 enc C.prog fn [] false (w.forCall tape i).memory i.args ∧ Assume.holds {} C.prog (lone (Frame.enter C.prog k i.args .normal) [] (w.forCall tape i)))
    (hv : s.vars = []) (hf : fn.resultTypes = #[tb]) (ub : C.prog.underlying tb = some .bool) (hl : laidOutB C.prog = true)
    (hr : (fn.params.toList.all fun t => C.prog.readableRec t && decide (t < C.prog.types.size)) = true)
    (hs : ∀ ds : List (DataW H), ds.length = fn.params.size → s.fn H ds = { results := [.lit (.bool true)], args := ds })
    (walk : ∀ (W : World) (base : Nat) (args : Array Value) (ds : List (DataW H)) (ps : List MemPlace),
      (∀ (j : Nat) t v, fn.params[j]? = some t → args[j]? = some v → Value.okWide C.prog W .any base t v) →
      DataW.TrodAll enc C.prog W 0 (fun _ => true) true fn.params.toList args.toList ds ps → (∀ x ∈ ps, x.block < W.heap.size) → W.noneFrozen ps →
      Calls C.prog k args W fun e W' => e = .returned (.bool true) ∧ Below W.heap.size W W') :
    ReturnsInHanded {} C os k .any (s.pre6 enc C.prog fn [] false) (s.post enc C.prog fn false true false false) := by
  refine returnsInHanded_of_change (C := C) own started noInit hfn witness ?_
  intro W base args ds gs before hval hW _ _
  have hW0 := hW
  obtain ⟨p, q, hA, hV, rfl, hz, _⟩ := hW
  have hgs : gs = [] ∧ q = [] := by
    rw [hv] at hV
    cases gs with
    | nil => exact ⟨rfl, hV⟩
    | cons g r => exact absurd hV (by intro h; cases h)
  obtain ⟨rfl, rfl⟩ := hgs
  have hlt : ∀ x ∈ p, x.block < W.heap.size := fun x hx => hW0.lt x (by simpa using hx)
  refine (walk W base args ds p hval hA hlt (by simpa using hz)).mono fun e W' ⟨he, hb⟩ => ?_
  subst he
  exact ⟨_, rfl, post_law hv hf ub hl hr hW0 (by rw [List.append_nil]; exact hs ds (by rw [trodAll_length _ _ _ _ hA]; simp)) hb⟩

end Go.Proofs.YtmpcbkonelcceaaDoor

/- The same step for a law whose row lists package-level variables: the walk may use what they read as. -/
namespace Go.Proofs.YtmpcbkonelcceaaDoor
open Go.ChangeShapes Go.WideShapes Go.ChangeAt Go.RowKit

/-- The law's row, lifted, out of its walk; 'laid' is what the row's variables read as. -/
theorem law_lifted_laid {H : Type} {enc : TypeId × Value → H} {C : Checked} {os : Os} {k : FuncId} {fn : Func} {s : ChangeSpec} {tb : TypeId} {laid : List (String × DataW Unit)}
    (own : ownKnob C.prog.godebug = none) (started : os.Started) (noInit : C.prog.inits.idxOf? k = none) (hfn : C.prog.funcs[k]? = some fn)
    (witness : ∃ (w : World) (tape : Tape) (i : Input), w.os = os ∧ (w.forCall tape i).Shaped C.prog ∧ i.vars = [] ∧ Input.okWide C.prog (w.forCall tape i) .any w.heap.size k i ∧
      ((s.pre enc C.prog fn [] false (w.forCall tape i).memory i.args ∧ laidMetH C.prog laid (w.forCall tape i).memory) ∧ sizedMet enc C.prog fn (OpenSpec.ofChange s) false (w.forCall tape i).memory i.args) ∧
      Assume.holds {} C.prog (lone (Frame.enter C.prog k i.args .normal) [] (w.forCall tape i)))
    (hv : s.vars = []) (hf : fn.resultTypes = #[tb]) (ub : C.prog.underlying tb = some .bool) (hl : laidOutB C.prog = true)
    (hr : (fn.params.toList.all fun t => C.prog.readableRec t && decide (t < C.prog.types.size)) = true)
    (hs : ∀ ds : List (DataW H), ds.length = fn.params.size → s.fn H ds = { results := [.lit (.bool true)], args := ds })
    (walk : ∀ (W : World) (base : Nat) (args : Array Value) (ds : List (DataW H)) (ps : List MemPlace),
      (∀ (j : Nat) t v, fn.params[j]? = some t → args[j]? = some v → Value.okWide C.prog W .any base t v) →
      DataW.TrodAll enc C.prog W 0 (fun _ => true) true fn.params.toList args.toList ds ps → (∀ x ∈ ps, x.block < W.heap.size) → W.noneFrozen ps → laidMetH C.prog laid W →
      Calls C.prog k args W fun e W' => e = .returned (.bool true) ∧ Below W.heap.size W W') :
    ReturnsInHanded {} C os k .any (fun w args => (s.pre enc C.prog fn [] false w args ∧ laidMetH C.prog laid w) ∧ sizedMet enc C.prog fn (OpenSpec.ofChange s) false w args)
      (s.post enc C.prog fn false true false false) := by
  refine returnsInHanded_of_change_and (C := C) (X := fun w _ => laidMetH C.prog laid w) (fun _ _ _ hh h => h.of_heap hh) own started noInit hfn witness ?_
  intro W base args ds gs before hval hW _ _ hL _
  have hW0 := hW
  obtain ⟨p, q, hA, hV, rfl, hz, _⟩ := hW
  have hgs : gs = [] ∧ q = [] := by
    rw [hv] at hV
    cases gs with
    | nil => exact ⟨rfl, hV⟩
    | cons g r => exact absurd hV (by intro h; cases h)
  obtain ⟨rfl, rfl⟩ := hgs
  have hlt : ∀ x ∈ p, x.block < W.heap.size := fun x hx => hW0.lt x (by simpa using hx)
  refine (walk W base args ds p hval hA hlt (by simpa using hz) hL).mono fun e W' ⟨he, hb⟩ => ?_
  subst he
  exact ⟨_, rfl, post_law hv hf ub hl hr hW0 (by rw [List.append_nil]; exact hs ds (by rw [trodAll_length _ _ _ _ hA]; simp)) hb⟩

/-- A world that holds the listed variables: for the witness. -/
theorem laid_witness {H : Type} {enc : TypeId × Value → H} {C : Checked} {os : Os} {f : FuncId} {fn : Func} {s : ChangeSpec} {laid : List (String × DataW Unit)} (args : Array Value) (fuel : Nat)
    (hn : (laid.all fun x => x.2.handleName?.isNone) = true)
    (hf : (World.holding C.prog os ⟨#[], #[], []⟩).layFits C.prog laid [] = true)
    (hi : (World.holding C.prog os ⟨#[], #[], []⟩).layIfaces C.prog laid (World.laidAll C.prog os laid) = true)
    (hv : ((World.laidAll C.prog os laid).forCall (fun _ _ => 0) ⟨#[], args, []⟩).variablesB C.prog = true)
    (hr : (((World.laidAll C.prog os laid).forCall (fun _ _ => 0) ⟨#[], args, []⟩).heap.toList.drop C.prog.globals.size).take ((begin C.prog (fun _ _ => 0) default).world.heap.size - C.prog.globals.size) =
      (begin C.prog (fun _ _ => 0) default).world.heap.toList.drop C.prog.globals.size)
    (hok : Input.okWideB C.prog ((World.laidAll C.prog os laid).forCall (fun _ _ => 0) ⟨#[], args, []⟩) f ⟨#[], args, []⟩ = true)
    (hpre : s.preB enc C.prog fn [] false ((World.laidAll C.prog os laid).forCall (fun _ _ => 0) ⟨#[], args, []⟩).memory args fuel = true)
    (hsz : s.sizedB enc C.prog fn false ((World.laidAll C.prog os laid).forCall (fun _ _ => 0) ⟨#[], args, []⟩).memory args fuel = true) :
    ∃ (w : World) (tape : Tape) (i : Input), w.os = os ∧ (w.forCall tape i).Shaped C.prog ∧ i.vars = [] ∧ Input.okWide C.prog (w.forCall tape i) .any w.heap.size f i ∧
      ((s.pre enc C.prog fn [] false (w.forCall tape i).memory i.args ∧ laidMetH C.prog laid (w.forCall tape i).memory) ∧ sizedMet enc C.prog fn (OpenSpec.ofChange s) false (w.forCall tape i).memory i.args) ∧
      Assume.holds {} C.prog (lone (Frame.enter C.prog f i.args .normal) [] (w.forCall tape i)) :=
  ChangeSpec.witness_at (X := fun w _ => laidMetH C.prog laid w) false (World.laidAll C.prog os laid) args fuel (World.laidAll_os _ _ _) hv hr hok hpre hsz
    ((MakeChecks.laidMetH_plain _ _ _ hn).symm ▸ laidMet_laidAll args hf hi)
end Go.Proofs.YtmpcbkonelcceaaDoor

/- ClearOf, LongestClear: the program; its table of seconds. -/
namespace Go.Proofs.YtmpcbkonelcceaaDoor
open Go.RowKit
set_option linter.unusedVariables false

def clrTab : List Int := [0, 2, 5, 3]
/-- the program's table. -/
def Clrs (w : World) : Prop := Lib.TabIs Tryd.prog w "loop.example/g03006/impl.clearTimes" .i64 clrTab
theorem clr_global : Tryd.prog.globalNamed "loop.example/g03006/impl.clearTimes" = some 2 := by kernel_rfl
theorem Clrs.below {w w' : World} {B : Nat} (h : Clrs w) (hb : Below B w w') (hB : w.heap.size ≤ B) : Clrs w' := Joins.tab_stays clr_global h hb hB
theorem clrs_of_laid {laid : List (String × DataW Unit)} {W : World} (hL : laidMetH Tryd.prog laid W)
    (e : (laid.filter fun x => x.1 == "loop.example/g03006/impl.clearTimes") = [("loop.example/g03006/impl.clearTimes", Lib.tabData .i64 clrTab)]) : Clrs W := by
  have h := hL.filter fun x => x.1 == "loop.example/g03006/impl.clearTimes"
  rw [e, MakeChecks.laidMetH_plain _ _ _ (by rfl)] at h
  exact Lib.tabIs_of_head clr_global (by kernel_rfl) Tryd.underlying91 Tryd.underlying3 (by kernel_rfl) (by kernel_rfl) h
theorem impl_ClearOf (p : Pth) (w : World) (ht : Clrs w) : Calls Tryd.prog 89 #[p.val] w fun e w' => e = .returned (.int .i64 (clearN p)) ∧ Below w.heap.size w w' := by
  have hr := isP_facts p
  have hcc := fun x => impl_IsPath p x
  have HR : Hid (clearN p = if isP p then (if p.kind = 1 then 2 else if p.kind = 2 then 5 else 3) else 0) := Lib.hid rfl
  have HT := Lib.hid ht
  clear ht
  obtain ⟨a, b, c, d⟩ := p
  simp only [Pth.val] at *
  have hb0 := (Below.refl w.heap.size w).alloc (Nat.le_refl _) (.cells #[.int .i64 a, .int .i64 b, .int .i64 c, .int .i64 d] 50)
  have HB0 := Lib.hid hb0
  clear hb0
  go_enter Tryd.func89, Tryd.ntmps89
  go_wp2_with fail
  refine (hcc _).mono ?_
  rintro e w1 ⟨rfl, hb1⟩
  have HB := Lib.hid (HB0.out.trans (hb1.mono HB0.out.size))
  have k0 : w1.cell? ⟨w.heap.size, 1, none⟩ = some (.int .i64 b) := (hb1.cell (p := ⟨w.heap.size, 1, none⟩) (by simp)).trans (by go_simp)
  have HT1 := Lib.hid (HT.out.below HB.out (Nat.le_refl _))
  clear hb1 hcc
  cases hp : isP ⟨a, b, c, d⟩
  · rw [hp] at HR
    clear hr hp
    go_wp2
    go_ret
    exact ⟨by rw [HR.out]; rfl, HB.out⟩
  · rw [hp] at HR
    obtain ⟨_, ⟨b1, b2⟩, _⟩ := hr hp
    clear hr hp
    have hb : b = 1 ∨ b = 2 ∨ b = 3 := by omega
    rcases hb with rfl | rfl | rfl
    · have t1 := Lib.TabIs.cell HT1.out clr_global 1 (by decide)
      go_wp2
      go_ret
      exact ⟨by rw [HR.out]; rfl, HB.out⟩
    · have t1 := Lib.TabIs.cell HT1.out clr_global 2 (by decide)
      go_wp2
      go_ret
      exact ⟨by rw [HR.out]; rfl, HB.out⟩
    · have t1 := Lib.TabIs.cell HT1.out clr_global 3 (by decide)
      go_wp2
      go_ret
      exact ⟨by rw [HR.out]; rfl, HB.out⟩
set_option maxHeartbeats 1000000 in
theorem impl_longestC (A : Option Addr) (n c B : Nat) (ps : List Pth) (w : World) (h : PthsAt w B A n ps) (hB : B ≤ w.heap.size) (hn : n ≤ 4294967296) (ht : Clrs w) :
    Calls Tryd.prog 72 #[.slice A n c] w fun e w' => e = .returned (.int .i64 (mostTo ps n)) ∧ Below w.heap.size w w' := by
  have hl := h.1
  have HT := Lib.hid ht
  clear ht
  go_enter Tryd.func72, Tryd.ntmps72
  go_wp2
  go_loopw [3, 8] (fun x i wr => ∃ k : Nat, k ≤ n ∧ i = .int .i64 k ∧ x = .int .i64 (mostTo ps k) ∧ Below w.heap.size w wr) (fun _ i _ => n - (intOf i).toNat)
  case atStart => exact ⟨0, Nat.zero_le _, rfl, rfl, Below.refl _ _⟩
  case round =>
    obtain ⟨k, hk, rfl, rfl, hbl⟩ := hrel
    have hsz := hbl.size
    by_cases hlt : k < n
    · obtain ⟨ad, p, rfl, hab, hp, hq⟩ := h.at hlt
      obtain ⟨c0, c1, c2, c3⟩ := hq.below hbl (by omega)
      have HM : Hid (mostTo ps (k + 1) = maxI (mostTo ps k) (clearN p)) := Lib.hid (by show maxI _ (clearN (pAt ps k)) = _; rw [pAt_some hp])
      have hb1 := hbl.alloc hsz (.cells #[.int .i64 p.id, .int .i64 p.kind, .int .i64 p.frm, .int .i64 p.to] 50)
      have hcc := impl_ClearOf p _ (HT.out.below hb1 (Nat.le_refl _))
      have HB1 := Lib.hid hb1
      have hv : p.val = .agg #[.int .i64 p.id, .int .i64 p.kind, .int .i64 p.frm, .int .i64 p.to] := rfl
      rw [hv] at hcc
      generalize mostTo ps k = m at *
      clear hp hq hv hb1 hbl
      go_wp2_with fail
      refine hcc.mono ?_
      rintro e w2 ⟨rfl, hb2⟩
      have HB2 := Lib.hid (HB1.out.trans (hb2.mono HB1.out.size))
      clear hb2 hcc c0 c1 c2 c3
      generalize clearN p = cn at *
      go_wp2_with fail
      refine (impl_Max _ _ _).mono ?_
      rintro e w3 ⟨rfl, hb3⟩
      have HB3 := Lib.hid (HB2.out.trans (hb3.mono HB2.out.size))
      clear hb3
      go_wp2
      go_roundw
      case rel => exact ⟨k + 1, by omega, by go_num, by rw [HM.out], HB3.out⟩
      case measure => simp [intOf]; omega
    · obtain rfl : k = n := by omega
      go_wp2
      go_ret
      exact ⟨rfl, hbl⟩
theorem impl_LongestClear (A : Option Addr) (n c B : Nat) (ps : List Pth) (w : World) (h : PthsAt w B A n ps) (hB : B ≤ w.heap.size) (hn : n ≤ 4294967296) (ht : Clrs w) :
    Calls Tryd.prog 48 #[.slice A n c] w fun e w' => e = .returned (.int .i64 (longC ps)) ∧ Below w.heap.size w w' := by
  have hl := h.1
  have HAP := Lib.hid (impl_ArePaths A n c B ps w h hB hn)
  have HT := Lib.hid ht
  have HP := Lib.hid h
  clear ht h
  cases ha : arePs ps
  · have HR : Hid (longC ps = 0) := Lib.hid (by unfold longC; rw [ha]; rfl)
    have HA := Lib.hid ha
    clear ha
    go_enter Tryd.func48, Tryd.ntmps48
    go_wp2_with fail
    refine HAP.out.mono ?_
    rw [HA.out]
    rintro e w1 ⟨rfl, hb1⟩
    go_wp2
    go_ret
    exact ⟨by rw [HR.out]; rfl, hb1⟩
  · have HR : Hid (longC ps = mostTo ps n) := Lib.hid (by unfold longC; rw [ha, hl]; rfl)
    have HA := Lib.hid ha
    clear ha
    go_enter Tryd.func48, Tryd.ntmps48
    go_wp2_with fail
    refine HAP.out.mono ?_
    rw [HA.out]
    rintro e w1 ⟨rfl, hb1⟩
    have HL := Lib.hid (impl_longestC A n c B ps w1 (HP.out.below (hb1.mono hB)) (Nat.le_trans hB hb1.size) hn (HT.out.below hb1 (Nat.le_refl _)))
    go_wp2_with fail
    refine HL.out.mono ?_
    rintro e w2 ⟨rfl, hb2⟩
    go_wp2
    go_ret
    exact ⟨by rw [HR.out]; try rfl, hb1.trans (hb2.mono hb1.size)⟩
end Go.Proofs.YtmpcbkonelcceaaDoor

/- Rows of paths as a law's walk knows them. -/
namespace Go.Proofs.YtmpcbkonelcceaaDoor
open Go.RowKit
set_option linter.unusedVariables false

/-- a slice of paths that may be read. -/
structure SlP (w : World) (A : Option Addr) (n c : Nat) (ps : List Pth) : Prop where
  pths : PthsAt w w.heap.size A n ps
  bare : A = none → n = 0 ∧ c = 0
  small : n ≤ 4294967296
  cap : n ≤ c ∧ c ≤ maxLen
  wf : ∀ p ∈ ps, p.wf
theorem SlP.len {w : World} {A : Option Addr} {n c : Nat} {ps : List Pth} (h : SlP w A n c ps) : ps.length = n := h.pths.1
theorem SlP.below {w w' : World} {A : Option Addr} {n c : Nat} {ps : List Pth} (h : SlP w A n c ps) (hb : Below w.heap.size w w') : SlP w' A n c ps :=
  ⟨(h.pths.below hb).up hb.size, h.bare, h.small, h.cap, h.wf⟩
/-- a row of paths of the call's own, between two block numbers. -/
structure OwP (E : TypeId) (w : World) (lo hi : Nat) (v : Value) (ps : List Pth) : Prop where
  own : w.ownsRow lo E 4 v ps.length (pcells ps)
  lt : ∀ g, v.ownBlock = some g → g < hi
  top : hi ≤ w.heap.size
theorem OwP.new {E : TypeId} {w : World} {lo : Nat} {v : Value} {ps : List Pth} (h : w.ownsRow lo E 4 v ps.length (pcells ps)) : OwP E w lo w.heap.size v ps := ⟨h, fun g e => (ownr_block h g e).2, Nat.le_refl _⟩
theorem OwP.below {E : TypeId} {w w' : World} {lo hi : Nat} {v : Value} {ps : List Pth} (h : OwP E w lo hi v ps) (hb : Below w.heap.size w w') : OwP E w' lo hi v ps := ⟨ownr_below h.own hb, h.lt, Nat.le_trans h.top hb.size⟩
theorem OwP.ints {E : TypeId} {w : World} {lo hi : Nat} {A : Option Addr} {n c : Nat} {ps : List Pth} (h : OwP E w lo hi (.slice A n c) ps) : PthsAt w w.heap.size A n ps := by
  have hn := ownr_len h.own
  subst hn
  exact ⟨rfl, ownr_cells h.own⟩
theorem OwP.sl {E : TypeId} {w : World} {lo hi : Nat} {A : Option Addr} {n c : Nat} {ps : List Pth} (h : OwP E w lo hi (.slice A n c) ps) (hn : n ≤ 4294967296) (hw : ∀ p ∈ ps, p.wf) : SlP w A n c ps :=
  ⟨h.ints, ownr_nilcap h.own, hn, ownr_cap h.own, hw⟩
theorem OwP.part {E : TypeId} {w w' : World} {lo hi l h' : Nat} {v : Value} {ps : List Pth} (h : OwP E w lo hi v ps) (hp : Part l h' w w') (hd : hi ≤ l ∨ h' ≤ lo) : OwP E w' lo hi v ps := by
  refine ⟨⟨h.own.1, ?_⟩, h.lt, Nat.le_trans h.top hp.size⟩
  rcases h.own.2 with h2 | ⟨g, cap, cur, rfl, hl, hg, r⟩
  · exact .inl h2
  · have hlt := h.lt g rfl
    have htop := h.top
    exact .inr ⟨g, cap, cur, rfl, hl, (hp.block g (by omega) (by omega)).trans hg, r⟩
theorem to_pth (A : Option Addr) (n c B : Nat) (ps : List Pth) (w : World) (h : PthsAt w B A n ps) (hB : B ≤ w.heap.size) (hn : n ≤ 1048576) :
    Calls Tryd.prog 10 #[.slice A n c] w fun e w' => e = .returned (.slice (some ⟨w.heap.size, 0, none⟩) n n) ∧ w'.ownsRow w.heap.size 50 4 (.slice (some ⟨w.heap.size, 0, none⟩) n n) ps.length (pcells ps) ∧ Below w.heap.size w w' := by
  have hl := h.1
  refine (law_toPathS A n c B ps w h hB (by omega)).mono fun e w' ⟨h1, h2, h3⟩ => ⟨h1, ?_, h3⟩
  rw [hl]
  exact h2
theorem eqs_pth (A : Option Addr) (n c : Nat) (ps : List Pth) (A2 : Option Addr) (n2 c2 : Nat) (w : World) (h : PthsAt w w.heap.size A n ps) (h2 : PthsAt w w.heap.size A2 n2 ps) (hn : n ≤ 1048576) (hn2 : n2 ≤ 1048576) :
    Calls Tryd.prog 14 #[.slice A n c, .slice A2 n2 c2] w fun e w' => e = .returned (.bool true) ∧ Below w.heap.size w w' :=
  (law_eqPathS A n c _ ps A2 n2 c2 _ ps w h h2 (Nat.le_refl _) (Nat.le_refl _) (by omega) (by omega)).mono fun e w' ⟨he, hb⟩ => ⟨by rw [he, decide_eq_true rfl], hb⟩
theorem marked_pth (A : Option Addr) (n c lo hi s : Nat) (ps : List Pth) (w : World) (h : OwP 50 w lo hi (.slice A n c) ps) (hn : n ≤ 1048576) (hs : s ≤ 70368744177664) :
    Calls Tryd.prog 15 #[.slice A n c, .int .i64 s] w fun e w' => e = .returned (.int .i64 ((s + n * 4 : Nat) : Int)) ∧ Part lo hi w w' := by
  have hl := ownr_len h.own
  refine (law_markPathS A n c lo s (pcells ps) w (by have h2 := h.own; rw [← hl] at h2; exact h2) (by omega) hs).mono fun e w' ⟨he, hg⟩ => ⟨he, ⟨hg.os, hg.tape, hg.output, hg.size, fun i hi' hd => hg.block i hi' fun e => ?_⟩⟩
  have h1 := h.lt i e.symm
  have h2 := (ownr_block h.own i e.symm).1
  omega
theorem sz_pth (A : Option Addr) (n c : Nat) (left : Int) (w : World) (hn : n ≤ 9223372036854775807) (hl : 0 ≤ left ∧ left ≤ 1048576) :
    Calls Tryd.prog 7 #[.slice A n c, .int .i64 left] w fun e w' => e = .returned (.int .i64 (if (n : Int) ≤ left then left - (n : Int) else -1)) ∧ w = w' := by
  obtain ⟨l1, l2⟩ := hl
  by_cases h : (n : Int) ≤ left
  · rw [if_pos h]
    go_enter Tryd.func7, Tryd.ntmps7
    go_wp2
    go_ret
    exact ⟨rfl, rfl⟩
  · rw [if_neg h]
    go_enter Tryd.func7, Tryd.ntmps7
    go_wp2
    go_ret
    exact ⟨rfl, rfl⟩
end Go.Proofs.YtmpcbkonelcceaaDoor

/- Chapter 36: WaitBound: program and model. -/
namespace Go.Proofs.YtmpcbkonelcceaaDoor
open Go.RowKit
set_option linter.unusedVariables false

def waitB (zs : List Pth) : Int := ((zs.length : Int) + 1) * (60 + longC zs + 20 + 1)
theorem longC_bound (zs : List Pth) : 0 ≤ longC zs ∧ longC zs ≤ 5 := by
  unfold longC
  split
  · exact mostTo_bound _ _
  · omega
end Go.Proofs.YtmpcbkonelcceaaDoor

/- Chapter 17: LongestSiren: program and model. -/
namespace Go.Proofs.YtmpcbkonelcceaaDoor
open Go.RowKit
set_option linter.unusedVariables false

def sirL (zs : List Pth) : Int := longC zs + 7 + 1 + longC zs
theorem sp_LongestSiren (A0 : Option Addr) (n0 c0 : Nat) (zs0 : List Pth) (w : World) (h0 : SlP w A0 n0 c0 zs0) (hs0 : n0 ≤ 1048576) (r : Int) (hr : sirL zs0 = r) :
    Calls Tryd.prog 25 #[.slice A0 n0 c0] w fun e w' => e = .returned (.int .i64 r) ∧ Below w.heap.size w w' := by
  have hcc := spec_LongestClear A0 n0 c0 _ zs0 w h0.pths (Nat.le_refl _) (by omega)
  obtain ⟨b1, b2⟩ := longC_bound zs0
  have HV : Hid (7 + 2 * longC zs0 + 1 = r) := Lib.hid (by rw [← hr]; unfold sirL; omega)
  generalize longC zs0 = L at *
  clear hr
  go_enter Tryd.func25, Tryd.ntmps25
  go_wp2_with fail
  refine hcc.mono ?_
  rintro e w1 ⟨rfl, hb1⟩
  go_wp2
  go_ret
  exact ⟨by rw [← HV.out]; try rfl, hb1⟩
theorem im_LongestSiren (A0 : Option Addr) (n0 c0 : Nat) (zs0 : List Pth) (w : World) (h0 : SlP w A0 n0 c0 zs0) (hs0 : n0 ≤ 1048576) (hv0 : Clrs w) (r : Int) (hr : sirL zs0 = r) :
    Calls Tryd.prog 26 #[.slice A0 n0 c0] w fun e w' => e = .returned (.int .i64 r) ∧ Below w.heap.size w w' := by
  have hcc := impl_LongestClear A0 n0 c0 _ zs0 w h0.pths (Nat.le_refl _) (by omega) hv0
  obtain ⟨b1, b2⟩ := longC_bound zs0
  have HV : Hid (longC zs0 + 7 + 1 + longC zs0 = r) := Lib.hid (by rw [← hr]; rfl)
  generalize longC zs0 = L at *
  clear hr
  go_enter Tryd.func26, Tryd.ntmps26
  go_wp2_with fail
  refine hcc.mono ?_
  rintro e w1 ⟨rfl, hb1⟩
  go_wp2
  go_ret
  exact ⟨by rw [← HV.out]; try rfl, hb1⟩
end Go.Proofs.YtmpcbkonelcceaaDoor

/- The same step for a law whose row names package-level variables of the program's own: they read behind the call as before. -/
namespace Go.Proofs.YtmpcbkonelcceaaDoor
open Go.ChangeShapes Go.WideShapes Go.ChangeAt Go.RowKit Go.WideElems

/-- A variable that can be read, or is of an interface type. -/
def varTold (P : Program) (n : String) : Bool :=
  match (P.globalNamed n).bind (P.globals[·]?) with
  | some gl => (P.readableRec gl.type && decide (gl.type < P.types.size)) || (match P.underlying gl.type with | some (.interface _) => true | _ => false)
  | none => false

theorem trod_iface {H : Type} {enc : TypeId × Value → H} {P : Program} {W W' : World} {t : TypeId} {ms : Array (String × TypeId)} (ht : P.underlying t = some (.interface ms)) {fuel : Nat} {cs : List Value} {y : DataW H × List MemPlace}
    (sp sp' : Nat → Bool) (h : DataW.trod enc P W 0 sp true fuel t cs = some y) : DataW.trod enc P W' 0 sp' true fuel t cs = some y := by
  cases fuel with
  | zero => simp [DataW.trod] at h
  | succ m =>
    simp only [DataW.trod, ht] at h ⊢
    split at h <;> simp_all

theorem trodVars_stays {H : Type} {enc : TypeId × Value → H} {P : Program} (hl : laidOutB P = true) {W W' : World} (hb : Below W.heap.size W W') :
    ∀ {ns : List String} {gs : List (DataW H)} {ps : List MemPlace}, ns.all (varTold P) = true → DataW.TrodVars enc P W (fun _ => true) ns gs ps → DataW.TrodVars enc P W' (fun b => decide (b < W.heap.size)) ns gs ps
  | [], [], _, _, h => h
  | [], _ :: _, _, _, h => h.elim
  | _ :: _, [], _, _, h => h.elim
  | n :: ns, d :: ds, ps, hv, h => by
    have hlt := h.lt
    obtain ⟨g, t, cs, fuel, p, q, h1, h2, h3, h4, hs, e⟩ := h
    simp only [List.all_cons, Bool.and_eq_true] at hv
    have h3' : W'.var? P n = some cs := by
      unfold World.var? at h3 ⊢
      rw [h1] at h3 ⊢
      simp only [Option.bind_some] at h3 ⊢
      have hg : g < W.heap.size := by
        cases hh : W.heap[g]? with
        | none => rw [hh] at h3; cases h3
        | some o => exact (Array.getElem?_eq_some_iff.1 hh).1
      rw [hb.block g hg]; exact h3
    have hp : ∀ x ∈ p, x.block < W.heap.size := fun x hx => hlt x (by rw [e]; simp [hx])
    refine ⟨g, t, cs, fuel, p, q, h1, h2, h3', ?_, trodVars_stays hl hb hv.2 hs, e⟩
    have ht := hv.1
    unfold varTold at ht
    rw [h1, Option.bind_some] at ht
    cases hg : P.globals[g]? with
    | none => rw [hg] at ht; cases ht
    | some gl =>
      rw [hg] at h2 ht
      obtain rfl : gl.type = t := Option.some.inj h2
      simp only [Bool.or_eq_true, Bool.and_eq_true, decide_eq_true_eq] at ht
      rcases ht with ht | ht
      · exact DataW.trod_stays (kids_book hl ht.1) (book_sized ht.1) (fun h => by cases h) ⟨ht.2, book_self gl.type⟩ h4 (fun x hx => hb.same (hp x hx)) (fun x hx => by simpa using hp x hx)
      · split at ht
        · rename_i ms hu
          exact trod_iface hu _ _ h4
        · cases ht

theorem trodVars_length {H : Type} {enc : TypeId × Value → H} {P : Program} {W : World} {sp : Nat → Bool} : ∀ {ns : List String} {gs : List (DataW H)} {ps : List MemPlace}, DataW.TrodVars enc P W sp ns gs ps → gs.length = ns.length
  | [], [], _, _ => rfl
  | [], _ :: _, _, h => h.elim
  | _ :: _, [], _, h => h.elim
  | _ :: _, _ :: _, _, h => by
    obtain ⟨_, _, _, _, _, _, _, _, _, _, hs, _⟩ := h
    simp [trodVars_length hs]

/-- What the row asks of a law: its answer is true, its arguments and the named variables read as they did. -/
theorem post_law_vars {H : Type} {enc : TypeId × Value → H} {P : Program} {f : Func} {s : ChangeSpec} {tb : TypeId} {W W' : World} {args : Array Value} {ds gs : List (DataW H)} {before : List MemPlace}
    (hv : s.vars.all (varTold P) = true) (hf : f.resultTypes = #[tb]) (ub : P.underlying tb = some .bool) (hl : laidOutB P = true)
    (hr : (f.params.toList.all fun t => P.readableRec t && decide (t < P.types.size)) = true)
    (hW : DataW.Whole enc P f.params.toList s.vars false W args.toList ds gs before)
    (hs : s.fn H (ds ++ gs) = { results := [.lit (.bool true)], args := ds, vars := gs }) (hb : Below W.heap.size W W') :
    s.post enc P f false true false false W args (.bool true) W' := by
  have hW0 := hW
  obtain ⟨p, q, hA, hV, rfl, hz, hn⟩ := hW
  have hlt : ∀ x ∈ p ++ q, x.block < W.heap.size := fun x hx => hW0.lt x hx
  refine ⟨ds, gs, _, [], p, q, hW0, ?_, ?_, ?_, hb.frame _, fun h => by cases h⟩
  · rw [hs, hf]
    exact trodAll_mk1 (shut_bool ub true)
  · rw [hs]
    exact trodAll_stays hl hb _ _ _ _ hr hA (fun x hx => hlt x (List.mem_append_left _ hx))
  · rw [hs]
    exact trodVars_stays hl hb hv hV

/-- The law's row, lifted, out of its walk; 'laid' is what the row's variables read as. -/
theorem law_lifted_vars {H : Type} {enc : TypeId × Value → H} {C : Checked} {os : Os} {k : FuncId} {fn : Func} {s : ChangeSpec} {tb : TypeId} {laid : List (String × DataW Unit)}
    (own : ownKnob C.prog.godebug = none) (started : os.Started) (noInit : C.prog.inits.idxOf? k = none) (hfn : C.prog.funcs[k]? = some fn)
    (witness : ∃ (w : World) (tape : Tape) (i : Input), w.os = os ∧ (w.forCall tape i).Shaped C.prog ∧ i.vars = [] ∧ Input.okWide C.prog (w.forCall tape i) .any w.heap.size k i ∧
      ((s.pre enc C.prog fn [] false (w.forCall tape i).memory i.args ∧ laidMetH C.prog laid (w.forCall tape i).memory) ∧ sizedMet enc C.prog fn (OpenSpec.ofChange s) false (w.forCall tape i).memory i.args) ∧
      Assume.holds {} C.prog (lone (Frame.enter C.prog k i.args .normal) [] (w.forCall tape i)))
    (hv : s.vars.all (varTold C.prog) = true) (hf : fn.resultTypes = #[tb]) (ub : C.prog.underlying tb = some .bool) (hl : laidOutB C.prog = true)
    (hr : (fn.params.toList.all fun t => C.prog.readableRec t && decide (t < C.prog.types.size)) = true)
    (hs : ∀ ds gs : List (DataW H), ds.length = fn.params.size → gs.length = s.vars.length → s.fn H (ds ++ gs) = { results := [.lit (.bool true)], args := ds, vars := gs })
    (walk : ∀ (W : World) (base : Nat) (args : Array Value) (ds : List (DataW H)) (ps : List MemPlace),
      (∀ (j : Nat) t v, fn.params[j]? = some t → args[j]? = some v → Value.okWide C.prog W .any base t v) →
      DataW.TrodAll enc C.prog W 0 (fun _ => true) true fn.params.toList args.toList ds ps → (∀ x ∈ ps, x.block < W.heap.size) → W.noneFrozen ps → laidMetH C.prog laid W →
      Calls C.prog k args W fun e W' => e = .returned (.bool true) ∧ Below W.heap.size W W') :
    ReturnsInHanded {} C os k .any (fun w args => (s.pre enc C.prog fn [] false w args ∧ laidMetH C.prog laid w) ∧ sizedMet enc C.prog fn (OpenSpec.ofChange s) false w args)
      (s.post enc C.prog fn false true false false) := by
  refine returnsInHanded_of_change_and (C := C) (X := fun w _ => laidMetH C.prog laid w) (fun _ _ _ hh h => h.of_heap hh) own started noInit hfn witness ?_
  intro W base args ds gs before hval hW _ _ hL _
  have hW0 := hW
  obtain ⟨p, q, hA, hV, rfl, hz, _⟩ := hW
  have hlt : ∀ x ∈ p, x.block < W.heap.size := fun x hx => hW0.lt x (List.mem_append_left _ hx)
  refine (walk W base args ds p hval hA hlt (fun b off hm => hz b off (List.mem_append_left _ hm)) hL).mono fun e W' ⟨he, hb⟩ => ?_
  subst he
  exact ⟨_, rfl, post_law_vars hv hf ub hl hr hW0 (hs ds gs (by rw [trodAll_length _ _ _ _ hA]; simp) (trodVars_length hV)) hb⟩
end Go.Proofs.YtmpcbkonelcceaaDoor

/- A law's arguments that are paths or rows of paths. -/
namespace Go.Proofs.YtmpcbkonelcceaaDoor
open Go.ChangeShapes Go.WideShapes Go.ChangeAt Go.RowKit Go.Joins
open Go.Deep (oneCellFields open_slice hone_of)

section
variable {H : Type} {enc : TypeId × Value → H} {P : Program}
theorem cell_int {W : World} {b0 : Nat} {sp : Nat → Bool} {hd : Bool} {n : Nat} {t : TypeId} {v : Value} {y : DataW H × List MemPlace} (ht : P.underlying t = some (.int .i64)) (h : DataW.trod enc P W b0 sp hd n t [v] = some y) : ∃ a : Int, v = .int .i64 a ∧ (Lit.int .i64 a).wf = true ∧ y.2 = [] := by
  obtain ⟨a, h1, h2, h3⟩ := DataW.trod_int ht h
  simp at h1
  exact ⟨a, h1, h3, by rw [h2]⟩
theorem arg_path {t : TypeId} {f0 f1 f2 f3 : Field} {W : World} {base : Nat} {v : Value} {d : DataW H} {ps : List MemPlace} (hs : P.underlying t = some (.struct #[f0, f1, f2, f3])) (hone : oneCellFields P #[f0, f1, f2, f3] = true) (hC : P.cellsOf t = 4)
    (h0 : P.underlying f0.type = some (.int .i64)) (h1 : P.underlying f1.type = some (.int .i64)) (h2 : P.underlying f2.type = some (.int .i64)) (h3 : P.underlying f3.type = some (.int .i64))
    (hval : Value.okWide P W .any base t v) (hd : DataW.Trod enc P W 0 (fun _ => true) true t v d ps) : ∃ p : Pth, v = p.val ∧ p.wf := by
  obtain ⟨v0, v1, v2, v3, y0, y1, y2, y3, n, rfl, -, -, t0, t1, t2, t3⟩ := open_agg4 hs hone hC hval hd
  obtain ⟨a, rfl, wa, -⟩ := cell_int h0 t0
  obtain ⟨b, rfl, wb, -⟩ := cell_int h1 t1
  obtain ⟨c, rfl, wc, -⟩ := cell_int h2 t2
  obtain ⟨e, rfl, we, -⟩ := cell_int h3 t3
  exact ⟨⟨a, b, c, e⟩, rfl, wa, wb, wc, we⟩
/-- the elements' fields of a slice of structs. -/
theorem open_slice_fields {w : World} {base : Nat} {spare : Nat → Bool} {held : Bool} {t e : TypeId} {fs : Array Field} {fuel : Nat} {cs : List Value} {x : DataW H × List MemPlace} (ht : P.underlying t = some (.slice e)) (he : P.underlying e = some (.struct fs))
    (hone : oneCellFields P fs = true) (hC : P.cellsOf e = fs.size) (h : DataW.trod enc P w base spare held fuel t cs = some x) :
    (cs = [.slice none 0 0] ∧ x = (.nil, [])) ∨
    ∃ (a : Addr) (len cap m : Nat) (D : Nat → DataW H) (Pl : Nat → List MemPlace), cs = [.slice (some a) len cap] ∧ base ≤ a.block ∧ len ≤ cap ∧ cap ≤ maxLen ∧ m = (if spare a.block then cap else len) ∧
      x = (.slice ((List.range len).map D) ((List.range (m - len)).map fun j => D (len + j)), MemPlace.row a (m * fs.size) ++ (List.range m).flatMap Pl) ∧
      ∀ i, i < m → ∃ (ys : List (DataW H × List MemPlace)) (n : Nat), D i = .agg (ys.map (·.1)) ∧ Pl i = ys.flatMap (·.2) ∧ ys.length = fs.size ∧
        ∀ (j : Nat) (f : Field), fs[j]? = some f → ∃ (v : Value) (y : DataW H × List MemPlace), w.cell? (a.add (i * fs.size + j)) = some v ∧ ys[j]? = some y ∧ DataW.trod enc P w base spare held n f.type [v] = some y := by
  rcases open_slice ht h with h0 | ⟨a, len, cap, m, n, D, Pl, hcs, hb, hl, hm, hmm, hx, hi⟩
  · exact .inl h0
  · refine .inr ⟨a, len, cap, m, D, Pl, hcs, hb, hl, hm, hmm, by rw [hC] at hx; exact hx, fun i him => ?_⟩
    obtain ⟨cs', hc, ht'⟩ := hi i him
    rw [hC] at hc
    obtain ⟨ys, n', hn', hy, hlen, hyl, hf⟩ := DataW.trod_struct he ht'
    obtain ⟨_, hcl, hat⟩ := World.cells?_some hc
    simp only [Prod.mk.injEq] at hy
    refine ⟨ys, n', hy.1, hy.2, hyl, fun j f hj => ?_⟩
    obtain ⟨ho, hk⟩ := hone_of hone j f hj
    have hjl : j < fs.size := (Array.getElem?_eq_some_iff.1 hj).1
    have hcell := hat j hjl
    have hv : cs'[j]? = some (cs'[j]'(by omega)) := List.getElem?_eq_getElem (by omega)
    have h1 := hf j f hj
    rw [ho, hk] at h1
    have hone' : (cs'.drop j).take 1 = [cs'[j]'(by omega)] := by
      rw [List.drop_eq_getElem_cons (by omega)]
      rfl
    rw [hone'] at h1
    have hys : ys[j]? = some (ys[j]'(by omega)) := List.getElem?_eq_getElem (by omega)
    refine ⟨_, _, ?_, hys, h1.trans hys⟩
    rw [← Go.Deep.add_add, hcell, hv]
theorem choose_upto {α : Type} {n : Nat} {R : Nat → α → Prop} (h : ∀ i, i < n → ∃ x, R i x) : ∃ l : List α, l.length = n ∧ ∀ (i : Nat) x, l[i]? = some x → R i x := by
  induction n with
  | zero => exact ⟨[], rfl, fun i x hi => by simp at hi⟩
  | succ n ih =>
    obtain ⟨l, hl, hR⟩ := ih fun i hi => h i (by omega)
    obtain ⟨x, hx⟩ := h n (by omega)
    refine ⟨l ++ [x], by simp [hl], fun i y hy => ?_⟩
    rw [List.getElem?_append] at hy
    split at hy
    · exact hR i y hy
    · rename_i hge
      have hi : i = n := by
        have := (List.getElem?_eq_some_iff.1 hy).1
        simp at this
        omega
      subst hi
      simp [hl] at hy
      subst hy
      exact hx
/-- A slice of paths that came in. -/
theorem arg_paths {t e : TypeId} {f0 f1 f2 f3 : Field} {W : World} {base : Nat} {v : Value} {d : DataW H} {ps : List MemPlace} (ht : P.underlying t = some (.slice e)) (he : P.underlying e = some (.struct #[f0, f1, f2, f3])) (hone : oneCellFields P #[f0, f1, f2, f3] = true) (hC : P.cellsOf e = 4)
    (h0 : P.underlying f0.type = some (.int .i64)) (h1 : P.underlying f1.type = some (.int .i64)) (h2 : P.underlying f2.type = some (.int .i64)) (h3 : P.underlying f3.type = some (.int .i64))
    (hval : Value.okWide P W .any base t v) (hd : DataW.Trod enc P W 0 (fun _ => true) true t v d ps) (hlt : ∀ x ∈ ps, x.block < W.heap.size) :
    ∃ (A : Option Addr) (n c : Nat) (zs : List Pth), v = .slice A n c ∧ (PthsAt W W.heap.size A n zs ∧ (∀ z ∈ zs, z.wf) ∧ n ≤ c ∧ c ≤ maxLen) := by
  obtain ⟨a, len, cap, rfl⟩ := okWide_slice ht hval
  obtain ⟨fuel, hf⟩ := hd
  rcases open_slice_fields ht he hone (by rw [hC]; rfl) hf with ⟨h1, _⟩ | ⟨a', len', cap', m, D, Pl, hcs, _, hl, hm, hmm, hx, hi⟩
  · have h1' : [Value.slice a len cap] = [Value.slice none 0 0] := h1
    simp only [List.cons.injEq, and_true] at h1'
    exact ⟨none, 0, 0, [], h1', ⟨rfl, rfl, fun h => absurd h (by omega)⟩, by simp, Nat.le_refl _, Nat.zero_le _⟩
  · have h1' : [Value.slice a len cap] = [Value.slice (some a') len' cap'] := hcs
    simp only [List.cons.injEq, and_true] at h1'
    rw [if_pos rfl] at hmm
    subst hmm
    obtain ⟨zs, hzl, hz⟩ := choose_upto (n := len') (R := fun i (p : Pth) => p.wf ∧ ∀ (j : Nat) u, p.cells[j]? = some u → W.cell? (a'.add (i * 4 + j)) = some u) (fun i hil => by
      obtain ⟨ys, n, _, _, _, hj⟩ := hi i (by omega)
      obtain ⟨v0, y0, c0, _, t0⟩ := hj 0 f0 rfl
      obtain ⟨v1, y1, c1, _, t1⟩ := hj 1 f1 rfl
      obtain ⟨v2, y2, c2, _, t2⟩ := hj 2 f2 rfl
      obtain ⟨v3, y3, c3, _, t3⟩ := hj 3 f3 rfl
      obtain ⟨x0, rfl, w0, -⟩ := cell_int h0 t0
      obtain ⟨x1, rfl, w1, -⟩ := cell_int h1 t1
      obtain ⟨x2, rfl, w2, -⟩ := cell_int h2 t2
      obtain ⟨x3, rfl, w3, -⟩ := cell_int h3 t3
      refine ⟨⟨x0, x1, x2, x3⟩, ⟨w0, w1, w2, w3⟩, fun j u hu => ?_⟩
      match j, hu with
      | 0, hu => simp [Pth.cells] at hu; subst hu; exact c0
      | 1, hu => simp [Pth.cells] at hu; subst hu; exact c1
      | 2, hu => simp [Pth.cells] at hu; subst hu; exact c2
      | 3, hu => simp [Pth.cells] at hu; subst hu; exact c3
      | j + 4, hu => simp [Pth.cells] at hu)
    refine ⟨some a', len', m, zs, h1', ⟨hzl, by rw [pcells_length, hzl], fun hn => ⟨a', rfl, ?_, fun j u hu => ?_⟩⟩, fun z hzm => ?_, hl, hm⟩
    · have hmem : MemPlace.cell a'.block (a'.off + 0) ∈ ps := by
        have e := congrArg Prod.snd hx
        simp only at e
        rw [e]
        exact List.mem_append_left _ (List.mem_map.2 ⟨0, List.mem_range.2 (by simp; omega), rfl⟩)
      exact hlt _ hmem
    · have hlen : j < zs.length * 4 := by
        have := (List.getElem?_eq_some_iff.1 hu).1
        rwa [pcells_length] at this
      have hd4 : j / 4 < zs.length := by omega
      have hp : zs[j / 4]? = some zs[j / 4] := List.getElem?_eq_getElem hd4
      have hg := flat_get (s := 4) (f := Pth.cells) (fun _ => rfl) zs (j / 4) (j % 4) _ hp (by omega)
      have ej : j / 4 * 4 + j % 4 = j := by clear hi hz hx; omega
      rw [ej] at hg
      have := (hz _ _ hp).2 (j % 4) u (hg.symm.trans hu)
      rwa [ej] at this
    · obtain ⟨i, hil, rfl⟩ := List.getElem_of_mem hzm
      exact (hz i _ (List.getElem?_eq_getElem hil)).1
end
end Go.Proofs.YtmpcbkonelcceaaDoor

/- A law's argument that is a controller. -/
namespace Go.Proofs.YtmpcbkonelcceaaDoor
open Go.ChangeShapes Go.WideShapes Go.ChangeAt Go.RowKit Go.Joins
open Go.Deep (oneCellFields open_slice hone_of)
set_option linter.unusedVariables false

section
variable {H : Type} {enc : TypeId × Value → H} {P : Program}
theorem row_of_trod {ft i : TypeId} {W : World} {n : Nat} {v : Value} {y : DataW H × List MemPlace} (h2 : P.underlying ft = some (.slice i)) (hi : P.underlying i = some (.int .i64)) (hci : P.cellsOf i = 1)
    (t2 : DataW.trod enc P W 0 (fun _ => true) true n ft [v] = some y) (hlt : ∀ x ∈ y.2, x.block < W.heap.size) :
    ∃ (A : Option Addr) (n c : Nat) (zs : List Int), v = .slice A n c ∧ (IntsAt .i64 W W.heap.size A n zs ∧ (∀ z ∈ zs, (Lit.int .i64 z).wf = true) ∧ n ≤ c ∧ c ≤ maxLen) := by
  rcases open_ints h2 hi hci t2 with ⟨h2, _⟩ | ⟨b, l2, cp2, zs, h2, _, hl2, hm2, hzl2, hx2, hc2, hwf2⟩
  · simp only [List.cons.injEq, and_true] at h2
    subst h2
    exact ⟨none, 0, 0, [], rfl, ⟨rfl, fun h => absurd h (by omega)⟩, by simp, Nat.le_refl _, Nat.zero_le _⟩
  · simp only [List.cons.injEq, and_true] at h2
    subst h2
    rw [if_pos rfl] at hzl2
    refine ⟨some b, l2, cp2, zs.take l2, rfl, ⟨by simp only [List.length_take]; omega, fun hn => ⟨b, rfl, ?_, fun q hq => ?_⟩⟩, fun z hzm => hwf2 z (List.mem_of_mem_take hzm), hl2, hm2⟩
    · have hmem : MemPlace.cell b.block (b.off + 0) ∈ y.2 := by
        have e2 : y.2 = MemPlace.row b zs.length := congrArg Prod.snd hx2
        rw [e2]
        exact List.mem_map.2 ⟨0, List.mem_range.2 (by omega), rfl⟩
      exact hlt _ hmem
    · rw [hc2 q (by omega)]
      simp [List.getD_eq_getElem?_getD, hq]
theorem arg_ctl {t i : TypeId} {f0 f1 f2 f3 : Field} {W : World} {base : Nat} {v : Value} {d : DataW H} {ps : List MemPlace} (hs : P.underlying t = some (.struct #[f0, f1, f2, f3])) (hone : oneCellFields P #[f0, f1, f2, f3] = true) (hC : P.cellsOf t = 4)
    (h0 : P.underlying f0.type = some (.slice i)) (h1 : P.underlying f1.type = some (.int .i64)) (h2 : P.underlying f2.type = some (.slice i)) (h3 : P.underlying f3.type = some (.int .i64)) (hi : P.underlying i = some (.int .i64)) (hci : P.cellsOf i = 1)
    (hval : Value.okWide P W .any base t v) (hd : DataW.Trod enc P W 0 (fun _ => true) true t v d ps) (hlt : ∀ x ∈ ps, x.block < W.heap.size) :
    ∃ (A : Option Addr) (n c : Nat) (zs : List Int) (A' : Option Addr) (n' c' : Nat) (zs' : List Int) (x0 x1 : Int), v = .agg #[.slice A n c, .int .i64 x0, .slice A' n' c', .int .i64 x1] ∧ (IntsAt .i64 W W.heap.size A n zs ∧ (∀ z ∈ zs, (Lit.int .i64 z).wf = true) ∧ n ≤ c ∧ c ≤ maxLen) ∧ (IntsAt .i64 W W.heap.size A' n' zs' ∧ (∀ z ∈ zs', (Lit.int .i64 z).wf = true) ∧ n' ≤ c' ∧ c' ≤ maxLen) ∧ (Lit.int .i64 x0).wf = true ∧ (Lit.int .i64 x1).wf = true := by
  obtain ⟨v0, v1, v2, v3, y0, y1, y2, y3, n, rfl, -, hps, t0, t1, t2, t3⟩ := open_agg4 hs hone hC hval hd
  obtain ⟨x0, rfl, w0, -⟩ := cell_int h1 t1
  obtain ⟨x1, rfl, w1, -⟩ := cell_int h3 t3
  obtain ⟨A, m, c, zs, rfl, f0⟩ := row_of_trod h0 hi hci t0 (fun x hx => hlt x (by rw [hps]; simp only [List.mem_append]; exact Or.inl hx))
  obtain ⟨A', m', c', zs', rfl, f2⟩ := row_of_trod h2 hi hci t2 (fun x hx => hlt x (by rw [hps]; simp only [List.mem_append]; exact Or.inr (Or.inr (Or.inl hx))))
  exact ⟨A, m, c, zs, A', m', c', zs', x0, x1, rfl, f0, f2, w0, w1⟩
end
end Go.Proofs.YtmpcbkonelcceaaDoor

/- Chapter 6's model: full stages. -/
namespace Go.Proofs.YtmpcbkonelcceaaDoor
open Go.RowKit
set_option linter.unusedVariables false

theorem putI_length (zs : List Int) (n : Int) : (putI zs n).length ≤ zs.length + 1 := by
  unfold putI
  split
  · omega
  · rw [List.length_append, List.length_cons, List.length_take, List.length_drop]
    omega
/-- the i-th path is in the stage, or may not be put into it. -/
def fullAt (ps : List Pth) (zs : List Int) (i : Nat) : Bool := hasI zs (pAt ps i).id || !isTog ps (putI zs (pAt ps i).id)
/-- what IsFullStage answers. -/
def isFull (ps : List Pth) (zs : List Int) : Bool := (List.range ps.length).all (fullAt ps zs) && isTog ps zs
theorem isFull_no {ps : List Pth} {zs : List Int} {i : Nat} (hi : i < ps.length) (h : fullAt ps zs i = false) : isFull ps zs = false := by
  unfold isFull
  have : (List.range ps.length).all (fullAt ps zs) = false := by
    rw [Bool.eq_false_iff]
    intro ha
    have := List.all_eq_true.1 ha i (List.mem_range.2 hi)
    rw [h] at this
    cases this
  rw [this]
  rfl
theorem isFull_end {ps : List Pth} {zs : List Int} (h : ∀ i, i < ps.length → fullAt ps zs i = true) : isFull ps zs = isTog ps zs := by
  unfold isFull
  have : (List.range ps.length).all (fullAt ps zs) = true := List.all_eq_true.2 fun k hk => h k (List.mem_range.1 hk)
  rw [this]
  simp
/-- the first k paths tried one by one. -/
def addTo (ps : List Pth) (zs : List Int) : Nat → List Int
  | 0 => zs
  | k + 1 => if isTog ps (putI (addTo ps zs k) (pAt ps k).id) then putI (addTo ps zs k) (pAt ps k).id else addTo ps zs k
/-- what AddToStage answers. -/
def addS (ps : List Pth) (zs : List Int) : List Int := if isTog ps zs then addTo ps zs ps.length else zs
theorem addTo_length (ps : List Pth) (zs : List Int) : ∀ k, (addTo ps zs k).length ≤ zs.length + k
  | 0 => Nat.le_refl _
  | k + 1 => by
    have ih := addTo_length ps zs k
    have h := putI_length (addTo ps zs k) (pAt ps k).id
    unfold addTo
    split <;> omega
end Go.Proofs.YtmpcbkonelcceaaDoor

/- Chapter 6's model: lists of stages, read. -/
namespace Go.Proofs.YtmpcbkonelcceaaDoor
open Go.RowKit
set_option linter.unusedVariables false

/-- A slice of slices of numbers, all in blocks below B. -/
def SSAt (w : World) (B : Nat) (A : Option Addr) (n : Nat) (zss : List (List Int)) : Prop :=
  zss.length = n ∧ (0 < n → ∃ ad, A = some ad ∧ ad.block < B ∧ ∀ j, j < n → ∃ A' m c, w.cell? (ad.add j) = some (.slice A' m c) ∧ IntsAt .i64 w B A' m (zss.getD j []) ∧ m ≤ c ∧ (A' = none → m = 0 ∧ c = 0))
theorem SSAt.at {w : World} {B : Nat} {A : Option Addr} {n : Nat} {zss : List (List Int)} (h : SSAt w B A n zss) {j : Nat} (hj : j < n) :
    ∃ ad A' m c, A = some ad ∧ (ad.add j).block < B ∧ w.cell? (ad.add j) = some (.slice A' m c) ∧ IntsAt .i64 w B A' m (zss.getD j []) ∧ m ≤ c ∧ (A' = none → m = 0 ∧ c = 0) := by
  obtain ⟨ad, e, hb, hc⟩ := h.2 (by omega)
  obtain ⟨A', m, c, h1, h2, h3, h4⟩ := hc j hj
  exact ⟨ad, A', m, c, e, by rw [add_block]; exact hb, h1, h2, h3, h4⟩
/-- a path is in one of the stages. -/
def inSome (zss : List (List Int)) (id : Int) : Bool := zss.any (fun zs => hasI zs id)
/-- what Covers answers. -/
def coversP (ps : List Pth) (zss : List (List Int)) : Bool := zss.all (isTog ps) && (List.range ps.length).all (fun i => inSome zss (pAt ps i).id) && arePs ps
theorem covers_tog {ps : List Pth} {zss : List (List Int)} {j : Nat} (hj : j < zss.length) (h : isTog ps (zss.getD j []) = false) : coversP ps zss = false := by
  unfold coversP
  have : zss.all (isTog ps) = false := by
    rw [Bool.eq_false_iff]
    intro ha
    have := List.all_eq_true.1 ha (zss.getD j []) (by rw [List.getD_eq_getElem?_getD, List.getElem?_eq_getElem hj]; exact List.getElem_mem hj)
    rw [h] at this
    cases this
  rw [this]
  rfl
theorem covers_out {ps : List Pth} {zss : List (List Int)} {j : Nat} (hj : j < ps.length) (h : inSome zss (pAt ps j).id = false) : coversP ps zss = false := by
  unfold coversP
  have : (List.range ps.length).all (fun i => inSome zss (pAt ps i).id) = false := by
    rw [Bool.eq_false_iff]
    intro ha
    have := List.all_eq_true.1 ha j (List.mem_range.2 hj)
    rw [h] at this
    cases this
  rw [this]
  simp
theorem covers_end {ps : List Pth} {zss : List (List Int)} (h1 : ∀ j, j < zss.length → isTog ps (zss.getD j []) = true) (h2 : ∀ i, i < ps.length → inSome zss (pAt ps i).id = true) : coversP ps zss = arePs ps := by
  unfold coversP
  have a : zss.all (isTog ps) = true := List.all_eq_true.2 fun zs hz => by
    obtain ⟨j, hj, e⟩ := List.getElem_of_mem hz
    have := h1 j hj
    rw [List.getD_eq_getElem?_getD, List.getElem?_eq_getElem hj] at this
    rw [← e]
    exact this
  have b : (List.range ps.length).all (fun i => inSome zss (pAt ps i).id) = true := List.all_eq_true.2 fun k hk => h2 k (List.mem_range.1 hk)
  rw [a, b]
  simp
theorem inSome_take {zss : List (List Int)} {k : Nat} (id : Int) (hk : k < zss.length) : inSome (zss.take (k + 1)) id = (inSome (zss.take k) id || hasI (zss.getD k []) id) := by
  unfold inSome
  rw [List.take_add_one, List.any_append, List.getElem?_eq_getElem hk, List.getD_eq_getElem?_getD, List.getElem?_eq_getElem hk]
  simp
end Go.Proofs.YtmpcbkonelcceaaDoor

/- Slices of slices of numbers of a call's own. -/
namespace Go.Proofs.YtmpcbkonelcceaaDoor
open Go.RowKit
set_option linter.unusedVariables false

theorem info_ints : (Tryd.prog.info? 23).map (fun i => (i.zero, i.size, i.bytes)) = some (some (.slice none 0 0), 1, 24) := by kernel_rfl
/-- v is a slice of the call's own (a block from lo on), of slices of the call's own. -/
def OwnSS (w : World) (lo : Nat) (v : Value) (zss : List (List Int)) : Prop :=
  ∃ vs : List Value, w.ownsRow lo 23 1 v zss.length vs ∧ ∀ j, j < zss.length → ∃ u, vs[j]? = some u ∧ Own .i64 3 w lo u (zss.getD j [])
/-- rows of other types lie in other blocks. -/
theorem own_apart {w : World} {lo lo2 : Nat} {u v : Value} {zs : List Int} {n : Nat} {vs : List Value} (h : Own .i64 3 w lo u zs) (h2 : w.ownsRow lo2 23 1 v n vs) : ∀ g, u.ownBlock = some g → v.ownBlock ≠ some g := by
  intro g hg e
  rcases h.2 with ⟨rfl, _⟩ | ⟨g1, cap, cur, rfl, hb, hg1, r⟩
  · cases hg
  · rcases h2.2 with ⟨rfl, _⟩ | ⟨g2, cap2, cur2, rfl, hb2, hg2, r2⟩
    · cases e
    · have e1 : g1 = g := Option.some.inj hg
      have e2 : g2 = g := Option.some.inj e
      subst e1
      subst e2
      rw [hg1] at hg2
      injection hg2 with hg2
      injection hg2 with _ ht
      exact absurd ht (by decide)
theorem OwnSS.apart {w : World} {lo lo2 : Nat} {u v : Value} {zs : List Int} {zss : List (List Int)} (h : OwnSS w lo2 v zss) (h2 : Own .i64 3 w lo u zs) : ∀ g, u.ownBlock = some g → v.ownBlock ≠ some g := by
  obtain ⟨vs, hr, _⟩ := h
  exact own_apart h2 hr
theorem OwnSS.mono {w : World} {lo lo' : Nat} {v : Value} {zss : List (List Int)} (h : OwnSS w lo v zss) (hl : lo' ≤ lo) : OwnSS w lo' v zss := by
  obtain ⟨vs, hr, hi⟩ := h
  refine ⟨vs, ownr_mono hr hl, fun j hj => ?_⟩
  obtain ⟨u, h1, h2⟩ := hi j hj
  exact ⟨u, h1, h2.mono hl⟩
theorem OwnSS.below {w w' : World} {lo : Nat} {v : Value} {zss : List (List Int)} (h : OwnSS w lo v zss) (hb : Below w.heap.size w w') : OwnSS w' lo v zss := by
  obtain ⟨vs, hr, hi⟩ := h
  refine ⟨vs, ownr_below hr hb, fun j hj => ?_⟩
  obtain ⟨u, h1, h2⟩ := hi j hj
  exact ⟨u, h1, h2.below hb⟩
theorem OwnSS.alloc {w : World} {lo : Nat} {v : Value} {zss : List (List Int)} (h : OwnSS w lo v zss) (o : Obj) : OwnSS (w.alloc o) lo v zss := h.below ((Below.refl _ _).alloc (Nat.le_refl _) _)
theorem OwnSS.sliced {w : World} {lo : Nat} {v : Value} {zss : List (List Int)} (h : OwnSS w lo v zss) : ∃ A c, v = .slice A zss.length c := by
  obtain ⟨vs, hr, _⟩ := h
  exact ownr_sliced hr
theorem OwnSS.block {w : World} {lo : Nat} {v : Value} {zss : List (List Int)} (h : OwnSS w lo v zss) : ∀ g, v.ownBlock = some g → lo ≤ g ∧ g < w.heap.size := by
  obtain ⟨vs, hr, _⟩ := h
  exact ownr_block hr
theorem OwnSS.hollow {W : World} {lo g : Nat} (h : W.heap[g]? = some (.cells #[] 23 (0, 0))) (hl : lo ≤ g) : OwnSS W lo (.slice (some ⟨g, 0, none⟩) 0 0) [] :=
  ⟨[], ⟨rfl, .inr ⟨g, 0, #[], rfl, hl, h, Nat.le_refl _, by decide, rfl, rfl⟩⟩, fun j hj => absurd hj (by simp)⟩
/-- a row of the call's own, put behind. -/
theorem OwnSS.put {w w1 w' : World} {lo : Nat} {v v' u : Value} {zss : List (List Int)} {zs : List Int} (vs : List Value) (hr : w.ownsRow lo 23 1 v zss.length vs) (hi : ∀ j, j < zss.length → ∃ u, vs[j]? = some u ∧ Own .i64 3 w lo u (zss.getD j [])) (h2 : Own .i64 3 w lo u zs)
    (hb : Below w.heap.size w w1) (hr' : w'.ownsRow lo 23 1 v' (zss.length + 1) (vs ++ [u])) (hg : w1.grownBy w' v.ownBlock) : OwnSS w' lo v' (zss ++ [zs]) := by
  have hl : vs.length = zss.length := by have := hr.1; omega
  have hr1 := ownr_below hr hb
  have kept : ∀ {x : Value} {xs : List Int}, Own .i64 3 w lo x xs → Own .i64 3 w' lo x xs := fun hx => (hx.below hb).grown hg (own_apart (hx.below hb) hr1)
  refine ⟨vs ++ [u], by rw [List.length_append]; exact hr', fun j hj => ?_⟩
  rw [List.length_append, List.length_singleton] at hj
  by_cases e : j < zss.length
  · obtain ⟨x, h1, h3⟩ := hi j e
    refine ⟨x, by rw [List.getElem?_append_left (by omega)]; exact h1, ?_⟩
    rw [List.getD_eq_getElem?_getD, List.getElem?_append_left e, ← List.getD_eq_getElem?_getD]
    exact kept h3
  · obtain rfl : j = zss.length := by omega
    refine ⟨u, by rw [List.getElem?_append_right (by omega)]; simp [hl], ?_⟩
    rw [List.getD_eq_getElem?_getD, List.getElem?_append_right (by omega)]
    simpa using kept h2
theorem addS_length (ps : List Pth) (zs : List Int) : (addS ps zs).length ≤ zs.length + ps.length := by
  unfold addS
  split
  · exact addTo_length _ _ _
  · omega
/-- the stages laid for the first i paths, and the paths done by them. -/
def coverTo (ps : List Pth) : Nat → List (List Int) × List Int
  | 0 => ([], [])
  | i + 1 => if hasI (coverTo ps i).2 (pAt ps i).id then coverTo ps i else ((coverTo ps i).1 ++ [addS ps [(pAt ps i).id]], (addS ps [(pAt ps i).id]).foldl putI (coverTo ps i).2)
/-- what CoverOf answers. -/
def coverP (ps : List Pth) : List (List Int) := if arePs ps then (coverTo ps ps.length).1 else []
theorem foldl_putI_length (s d : List Int) : (s.foldl putI d).length ≤ d.length + s.length := by
  induction s generalizing d with
  | nil => exact Nat.le_refl _
  | cons x s ih =>
    have h1 := ih (putI d x)
    have h2 := putI_length d x
    rw [List.foldl_cons, List.length_cons]
    omega
theorem coverTo_len (ps : List Pth) : ∀ i, (coverTo ps i).1.length ≤ i ∧ (coverTo ps i).2.length ≤ i * (1 + ps.length)
  | 0 => ⟨Nat.le_refl _, Nat.zero_le _⟩
  | i + 1 => by
    obtain ⟨h1, h2⟩ := coverTo_len ps i
    have hs := addS_length ps [(pAt ps i).id]
    have hf := foldl_putI_length (addS ps [(pAt ps i).id]) (coverTo ps i).2
    have e : (i + 1) * (1 + ps.length) = i * (1 + ps.length) + (1 + ps.length) := Nat.succ_mul _ _
    rw [List.length_singleton] at hs
    unfold coverTo
    split
    · exact ⟨by omega, by omega⟩
    · refine ⟨?_, ?_⟩
      · show ((coverTo ps i).1 ++ [_]).length ≤ _
        rw [List.length_append, List.length_singleton]
        omega
      · show (List.foldl putI _ _).length ≤ _
        omega
end Go.Proofs.YtmpcbkonelcceaaDoor
