/- Chapter 6's model: ascending lists of numbers. -/
import Derived.Test.YtdlcjmdkafebpaaTog2
import Derived.Test.YtdlcjmdkafebpaaInts
namespace Go.Proofs.Ytdlcjmdkafebpaa
open Go.RowKit
set_option linter.unusedVariables false

/-- 'append(v, x...)' at a step of a region that draws its order. -/
theorem step_app {P : Program} {w : World} {ops : Array Oper} {o : Oper} {a : Act} {K : Act → World → Prop} {Q : Exit → Act → World → Prop} {F : Prop} (hgd : o.guard = none) (s x : Operand) (t : TypeId)
    (ho : o.op = .call { callee := .builtin .append, args := #[s, x], argTypes := #[t, t] })
    (k : IntKind) (E : TypeId) (bytes : Nat) (ht : P.underlying t = some (.slice E)) (hi : (P.info? E).map (fun i => (i.zero, i.size, i.bytes)) = some (some (.int k 0), 1, bytes))
    (lo : Nat) (v : Value) (xs : List Int) (hs : a.eval s = v) (hown : Own k E w lo v xs)
    (A : Option Addr) (m c B : Nat) (zs : List Int) (hx : a.eval x = .slice A m c) (hsrc : IntsAt k w B A m zs) (hnil : A = none → m = 0 ∧ c = 0) (hb : bytes ≤ 8)
    (hbytes : xs.length + m ≤ 4398046511104) (hlo : lo ≤ w.heap.size)
    (h : ∀ v' w', Own k E w' lo v' (xs ++ zs) → w.grownBy w' v.ownBlock → K (a.put o.dst v') w') :
    if Region.wanted o (yielded ops a.tmps) = true then Oper.wp P o a w K Q else F := by
  rw [if_pos (by simp [Region.wanted, hgd])]
  obtain ⟨i, hi1, hz, hsz, hby⟩ := info_parts hi
  have hzs := hsrc.1
  obtain ⟨Av, cv, hv⟩ := hown.sliced
  cases A with
  | none =>
    obtain ⟨rfl, rfl⟩ := hnil rfl
    have hz0 : zs = [] := List.eq_nil_of_length_eq_zero hzs
    subst hz0
    have hrun := run_append_owned_none (P := P) (w := w) lo t o.type E i 1 ht hi1 v xs.length _ hown
    have hrun2 := (run_append_types ht ht o.type Av xs.length cv (.slice none 0 0) w).trans (hv ▸ hrun)
    unfold Oper.wp
    simp [execOp, ho, resolve, invoke, builtin, hs, hx, hv, hrun2, Result.andThen]
    exact hv ▸ h v w (by rw [List.append_nil]; exact hown) (World.grownBy.refl _ _)
  | some ad =>
    obtain ⟨v', w', hr, h2, h3, h4, h5⟩ := run_append_own_at (P := P) w lo t o.type E i (.int k 0) 1 bytes ht hi1 hz hsz hby rfl (by omega) v xs.length _ hown ad m c (zs.map (Value.int k)) (by simp [hzs]) (ints_news hsrc) (ints_one k zs)
      (by unfold maxLen; omega) (by have : (xs.length + m) * bytes ≤ (xs.length + m) * 8 := Nat.mul_le_mul_left _ hb; omega) hlo
    have hrun2 := (run_append_types ht ht o.type Av xs.length cv (.slice (some ad) m c) w).trans (hv ▸ hr)
    unfold Oper.wp execOp
    simp only [ho, resolve, invoke, builtin, Sem.run_bind, Sem.run_pure, Result.andThen_ok, List.map_toArray, List.map_cons, List.map_nil, hs, hx, hv, hrun2]
    refine h v' w' ?_ h3
    unfold Own
    rw [List.length_append, List.map_append, hzs]
    exact h2
/-- 'append(v, x)', one number, at such a step. -/
theorem step_one {P : Program} {w : World} {ops : Array Oper} {o : Oper} {a : Act} {K : Act → World → Prop} {Q : Exit → Act → World → Prop} {F : Prop} (hgd : o.guard = none) (s x : Operand) (t : TypeId)
    (ho : o.op = .call { callee := .builtin .append, args := #[s, x], argTypes := #[t, t] })
    (k : IntKind) (E : TypeId) (bytes : Nat) (ht : P.underlying t = some (.slice E)) (hi : (P.info? E).map (fun i => (i.zero, i.size, i.bytes)) = some (some (.int k 0), 1, bytes))
    (lo : Nat) (v : Value) (xs : List Int) (hs : a.eval s = v) (hown : Own k E w lo v xs) (hb : bytes ≤ 8) (hbytes : xs.length < 4398046511104)
    (z : Int) (H : Nat) (hlo : lo ≤ w.heap.size) (hx : a.eval x = .slice (some ⟨H, 0, none⟩) 1 1) (hc : w.cell? ⟨H, 0, none⟩ = some (.int k z))
    (h : ∀ v' w', Own k E w' lo v' (xs ++ [z]) → w.grownBy w' v.ownBlock → K (a.put o.dst v') w') :
    if Region.wanted o (yielded ops a.tmps) = true then Oper.wp P o a w K Q else F :=
  step_app hgd s x t ho k E bytes ht hi lo v xs hs hown (some ⟨H, 0, none⟩) 1 1 (H + 1) [z] hx ⟨rfl, fun _ => ⟨_, rfl, by simp, fun j hj => by
    obtain rfl : j = 0 := by omega
    rw [add_head]
    exact hc⟩⟩ (by simp) hb (by omega) hlo h
/-- how many numbers at the head are below n. -/
def lowN (zs : List Int) (n : Int) : Nat := (zs.takeWhile (fun z => decide (z < n))).length
/-- a number put into an ascending list. -/
def putI (zs : List Int) (n : Int) : List Int := if zs[lowN zs n]? = some n then zs else zs.take (lowN zs n) ++ n :: zs.drop (lowN zs n)
theorem lowN_at : ∀ {zs : List Int} {n : Int} {k : Nat}, k ≤ zs.length → (∀ i, i < k → zs.getD i 0 < n) → (k < zs.length → ¬ zs.getD k 0 < n) → lowN zs n = k
  | [], n, k, hk, _, _ => by
    have : k = 0 := by simpa using hk
    subst this
    rfl
  | z :: zs, n, 0, _, _, h => by
    have := h (by simp)
    simp at this
    unfold lowN
    simp [List.takeWhile, show decide (z < n) = false from decide_eq_false (by omega)]
  | z :: zs, n, k + 1, hk, h, h2 => by
    have h0 := h 0 (by omega)
    simp at h0
    have ih := lowN_at (zs := zs) (n := n) (k := k) (by simpa using hk) (fun i hi => by simpa using h (i + 1) (by omega)) (fun hk => by simpa using h2 (by simpa using hk))
    unfold lowN at ih ⊢
    simp [List.takeWhile, show decide (z < n) = true from decide_eq_true h0, ih]
/-- what has says. -/
def hasI (zs : List Int) (n : Int) : Bool := zs.contains n
theorem hasI_no {zs : List Int} {n : Int} (h : ∀ i, i < zs.length → zs.getD i 0 ≠ n) : hasI zs n = false := by
  unfold hasI
  rw [Bool.eq_false_iff]
  intro hc
  obtain ⟨i, hi, e⟩ := List.getElem_of_mem (List.contains_iff_mem.1 hc)
  exact h i hi (by rw [List.getD_eq_getElem?_getD, List.getElem?_eq_getElem hi]; exact e)
theorem hasI_yes {zs : List Int} {n : Int} {i : Nat} (hi : i < zs.length) (h : zs.getD i 0 = n) : hasI zs n = true := by
  unfold hasI
  refine List.contains_iff_mem.2 ?_
  rw [← h, List.getD_eq_getElem?_getD, List.getElem?_eq_getElem hi]
  exact List.getElem_mem hi
/-- a block of one number that an append has left alone. -/
theorem grown_cell {W w3 : World} {row : Option Nat} (hg : W.grownBy w3 row) {H : Nat} {x : Int} {T : TypeId} (h : W.heap[H]? = some (.cells #[.int .i64 x] T (0, 0))) (hne : row ≠ some H) : w3.cell? ⟨H, 0, none⟩ = some (.int .i64 x) := by
  rw [cell_of_row w3 H 0 #[.int .i64 x] T (0, 0) ((hg.block H (lt_of_block h) (fun e => hne e.symm)).trans h)]
  rfl
/-- an empty row of the call's own. -/
theorem own_hollow {k : IntKind} {E : TypeId} {W : World} {lo g : Nat} (h : W.heap[g]? = some (.cells #[] E (0, 0))) (hl : lo ≤ g) : Own k E W lo (.slice (some ⟨g, 0, none⟩) 0 0) [] :=
  ⟨rfl, .inr ⟨g, 0, #[], rfl, hl, h, Nat.le_refl _, by decide, rfl, rfl⟩⟩
/-- the head of a list of numbers. -/
theorem IntsAt.head {k : IntKind} {w : World} {B : Nat} {A : Option Addr} {n : Nat} {zs : List Int} (h : IntsAt k w B A n zs) (m : Nat) (hm : m ≤ n) : IntsAt k w B A m (zs.take m) := by
  refine ⟨by rw [List.length_take, h.1]; omega, fun h0 => ?_⟩
  obtain ⟨ad, e, hb, hc⟩ := h.2 (by omega)
  refine ⟨ad, e, hb, fun j hj => ?_⟩
  rw [hc j (by omega), List.getD_eq_getElem?_getD, List.getD_eq_getElem?_getD, List.getElem?_take, if_pos hj]
/-- its tail. -/
theorem IntsAt.tail {k : IntKind} {w : World} {B : Nat} {ad : Addr} {n : Nat} {zs : List Int} (h : IntsAt k w B (some ad) n zs) (m : Nat) (hm : m ≤ n) : IntsAt k w B (some (ad.add m)) (n - m) (zs.drop m) := by
  refine ⟨by rw [List.length_drop, h.1], fun h0 => ?_⟩
  obtain ⟨a2, e, hb, hc⟩ := h.2 (by omega)
  injection e with e
  subst e
  refine ⟨_, rfl, by rw [add_block]; exact hb, fun j hj => ?_⟩
  rw [add_add, hc (m + j) (by omega), List.getD_eq_getElem?_getD, List.getD_eq_getElem?_getD, List.getElem?_drop]
theorem IntsAt.laid {k : IntKind} {w W : World} {B : Nat} {A : Option Addr} {n : Nat} {zs : List Int} (h : IntsAt k w B A n zs) (hB : B ≤ w.heap.size) (hb : Below w.heap.size w W) : IntsAt k W B A n zs := h.keep fun _ hp => hb.cell (by omega)
theorem alloc_heap (w : World) (o : Obj) : (w.alloc o).heap = w.heap.push o := rfl
theorem drew_heap (w : World) : w.drew.heap = w.heap := rfl
end Go.Proofs.Ytdlcjmdkafebpaa
