/- Rows of cells, of elements of whatever size: what they hold; append, make and stores on a row of the call's own. No program. -/
import Derived.Test.YtmcoeafkbpeelaaOwn
import Derived.Deep.AppendLies
namespace Go.Proofs.Ytmcoeafkbpeelaa
open Go.RowKit

theorem add_add (a : Addr) (m n : Nat) : (a.add m).add n = a.add (m + n) := by
  unfold Addr.add
  by_cases h : m = 0
  · subst h; simp
  · by_cases h2 : n = 0
    · subst h2; simp
    · simp [h, h2, Nat.add_assoc]
/-- These cells, one behind the other, in a block below B. -/
def CellsAt (w : World) (B : Nat) (A : Option Addr) (m : Nat) (vs : List Value) : Prop :=
  vs.length = m ∧ (0 < m → ∃ ad, A = some ad ∧ ad.block < B ∧ ∀ (j : Nat) v, vs[j]? = some v → w.cell? (ad.add j) = some v)
theorem CellsAt.keep {w w' : World} {B : Nat} {A : Option Addr} {m : Nat} {vs : List Value} (h : CellsAt w B A m vs) (hk : ∀ p : Addr, p.block < B → w'.cell? p = w.cell? p) : CellsAt w' B A m vs :=
  ⟨h.1, fun hn => by
    obtain ⟨ad, e, hb, hc⟩ := h.2 hn
    exact ⟨ad, e, hb, fun j v hj => (hk _ (by rw [add_block]; exact hb)).trans (hc j v hj)⟩⟩
theorem CellsAt.below {w w' : World} {B : Nat} {A : Option Addr} {m : Nat} {vs : List Value} (h : CellsAt w B A m vs) (hb : Below B w w') : CellsAt w' B A m vs := h.keep fun _ hp => hb.cell hp
theorem CellsAt.up {w : World} {B B' : Nat} {A : Option Addr} {m : Nat} {vs : List Value} (h : CellsAt w B A m vs) (hB : B ≤ B') : CellsAt w B' A m vs :=
  ⟨h.1, fun hn => by obtain ⟨ad, e, hb, hc⟩ := h.2 hn; exact ⟨ad, e, by omega, hc⟩⟩

section
variable {E : TypeId} {s : Nat} {w w' w0 : World} {lo lo' n : Nat} {v : Value} {vs : List Value}
theorem ownr_nil (E : TypeId) (s : Nat) (w : World) (lo : Nat) : w.ownsRow lo E s (.slice none 0 0) 0 [] := World.ownsRow_nil _ _ _ _
theorem ownr_shape (h : w.ownsRow lo E s v n vs) :
    (v = .slice none 0 0 ∧ n = 0) ∨ ∃ g cap, v = .slice (some ⟨g, 0, none⟩) n cap ∧ lo ≤ g ∧ g < w.heap.size ∧ n ≤ cap ∧ cap ≤ maxLen := by
  rcases h.2 with h1 | ⟨g, cap, cur, hv, hb, hg, hc, hm, _⟩
  · exact .inl h1
  · exact .inr ⟨g, cap, hv, hb, lt_of_block hg, hc, hm⟩
theorem ownr_sliced (h : w.ownsRow lo E s v n vs) : ∃ A c, v = .slice A n c := by
  rcases ownr_shape h with ⟨rfl, rfl⟩ | ⟨g, cap, rfl, _⟩
  · exact ⟨_, _, rfl⟩
  · exact ⟨_, _, rfl⟩
theorem ownr_len {A : Option Addr} {m c : Nat} (h : w.ownsRow lo E s (.slice A m c) n vs) : m = n := by
  obtain ⟨A', c', e⟩ := ownr_sliced h
  injection e
theorem ownr_block (h : w.ownsRow lo E s v n vs) : ∀ g, v.ownBlock = some g → lo ≤ g ∧ g < w.heap.size := World.ownsRow.lt h
theorem ownr_mono (h : w.ownsRow lo E s v n vs) (hl : lo' ≤ lo) : w.ownsRow lo' E s v n vs := by
  refine ⟨h.1, ?_⟩
  rcases h.2 with h2 | ⟨g, cap, cur, hv, hb, hg, r⟩
  · exact .inl h2
  · exact .inr ⟨g, cap, cur, hv, by omega, hg, r⟩
theorem ownr_grown {row : Option Nat} (h : w.ownsRow lo E s v n vs) (hg : w.grownBy w' row) (hne : ∀ g, v.ownBlock = some g → row ≠ some g) : w'.ownsRow lo E s v n vs :=
  World.ownsRow.kept h hg (by
    cases e : v.ownBlock with
    | none => exact .inl rfl
    | some g => exact .inr fun e' => hne g e e'.symm)
theorem ownr_under {B : Nat} (h : w.ownsRow lo E s v n vs) (hb : Below B w w') (hB : ∀ g, v.ownBlock = some g → g < B) : w'.ownsRow lo E s v n vs := by
  refine ⟨h.1, ?_⟩
  rcases h.2 with h2 | ⟨g, cap, cur, rfl, hl, hg, r⟩
  · exact .inl h2
  · exact .inr ⟨g, cap, cur, rfl, hl, (hb.block g (hB g rfl)).trans hg, r⟩
theorem ownr_below (h : w.ownsRow lo E s v n vs) (hb : Below w.heap.size w w') : w'.ownsRow lo E s v n vs := ownr_under h hb fun g e => (ownr_block h g e).2
theorem ownr_push {B : Nat} {a : World} (h : w0.ownsRow lo E s v n vs) (hl : B ≤ lo) (hb : Below B a w) (hB : B ≤ w.heap.size) (hg : w.grownBy w' v.ownBlock) : Below B a w' :=
  hb.grown hg hB fun g e => Nat.le_trans hl (ownr_block h g e).1
theorem ownr_cells {A : Option Addr} {m c : Nat} (h : w.ownsRow lo E s (.slice A m c) n vs) : CellsAt w w.heap.size A (m * s) vs := by
  have hm := ownr_len h
  subst hm
  refine ⟨h.1, fun h0 => ?_⟩
  rcases ownr_shape h with ⟨e, hn⟩ | ⟨g, cap, e, hb, hlt, _⟩
  · subst hn; simp at h0
  · injection e with e1 e2 e3
    subst e1; subst e3
    refine ⟨_, rfl, hlt, fun j u hj => ?_⟩
    rw [add_head, World.ownsRow.cellAt h j (by have := (List.getElem?_eq_some_iff.1 hj).1; rw [h.1] at this; exact this), hj]
theorem ownr_some {g c : Nat} (h : w.ownsRow lo E s (.slice (some ⟨g, 0, none⟩) n c) n vs) {j : Nat} (hj : j < n * s) : ∃ x, w.cell? ⟨g, j, none⟩ = some x := by
  have h1 := World.ownsRow.cellAt h j hj
  rw [List.getElem?_eq_getElem (by rw [h.1]; exact hj)] at h1
  exact ⟨_, h1⟩
theorem ownr_nilcap {A : Option Addr} {m c : Nat} (h : w.ownsRow lo E s (.slice A m c) n vs) : A = none → m = 0 ∧ c = 0 := by
  rintro rfl
  rcases ownr_shape h with ⟨e, _⟩ | ⟨g, cap, e, _⟩
  · injection e with e1 e2 e3; exact ⟨e2, e3⟩
  · injection e with e1; cases e1
theorem ownr_cap {A : Option Addr} {m c : Nat} (h : w.ownsRow lo E s (.slice A m c) n vs) : m ≤ c ∧ c ≤ maxLen := by
  rcases ownr_shape h with ⟨e, _⟩ | ⟨g, cap, e, _, _, h1, h2⟩
  · injection e with e1 e2 e3; subst e3; subst e2; exact ⟨Nat.le_refl _, by decide⟩
  · injection e with e1 e2 e3; subst e3; subst e2; exact ⟨h1, h2⟩
end

section
variable {P : Program} {w : World} {ops : Array Oper} {rest : List Oper} {o : Oper} {a : Act} {Q : Exit → Act → World → Prop}
/-- 'append(v, x...)', v of the call's own or nil, x a slice of the same elements, whatever it is. -/
theorem wpList_appR (hgd : o.guard = none) (s x : Operand) (t tx : TypeId)
    (ho : o.op = .call { callee := .builtin .append, args := #[s, x], argTypes := #[t, tx] })
    (E ex : TypeId) (z0 : Value) (sz bytes : Nat) (ht : P.underlying t = some (.slice E)) (htx : P.underlying tx = some (.slice ex)) (hi : (P.info? E).map (fun i => (i.zero, i.size, i.bytes)) = some (some z0, sz, bytes)) (hz : z0.cells.size = sz) (hsz : 0 < sz) (hb : bytes ≤ 256)
    (lo : Nat) (v : Value) (n : Nat) (xs : List Value) (hs : a.eval s = v) (hown : w.ownsRow lo E sz v n xs)
    (A : Option Addr) (m c B : Nat) (zs : List Value) (hx : a.eval x = .slice A m c) (hsrc : CellsAt w B A (m * sz) zs) (h1 : ∀ u ∈ zs, u.oneCell' = true) (hnil : A = none → m = 0 ∧ c = 0)
    (hbytes : n + m ≤ 274877906944) (hlo : lo ≤ w.heap.size)
    (h : ∀ v' w', w'.ownsRow lo E sz v' (n + m) (xs ++ zs) → w.grownBy w' v.ownBlock → (v'.ownBlock = v.ownBlock ∨ v'.ownBlock = some w.heap.size) → wpList P ops Q rest (a.put o.dst v') w') :
    wpList P ops Q (o :: rest) a w := by
  refine wpList_plain hgd fun K hK => ?_
  obtain ⟨i, hi1, hz1, hsz1, hby⟩ := info_parts hi
  have hzs := hsrc.1
  obtain ⟨Av, cv, hv⟩ := ownr_sliced hown
  cases A with
  | none =>
    obtain ⟨rfl, rfl⟩ := hnil rfl
    have hz0 : zs = [] := List.eq_nil_of_length_eq_zero (by rw [hzs]; simp)
    subst hz0
    have hrun := run_append_owned_none (P := P) (w := w) lo t o.type E i sz ht hi1 v n _ hown
    have hrun2 := (run_append_types ht htx o.type Av n cv (.slice none 0 0) w).trans (hv ▸ hrun)
    unfold Oper.wp
    simp [execOp, ho, resolve, invoke, builtin, hs, hx, hv, hrun2, Result.andThen]
    exact hK _ _ (hv ▸ h v w (by rw [List.append_nil]; exact hown) (World.grownBy.refl _ _) (.inl rfl))
  | some ad =>
    have hnews : ∀ (j : Nat) u, zs[j]? = some u → w.cell? (ad.add j) = some u := by
      intro j u hj
      have hlt := (List.getElem?_eq_some_iff.1 hj).1
      obtain ⟨ad', e, _, hc⟩ := hsrc.2 (by rw [← hzs]; omega)
      injection e with e
      subst e
      exact hc j u hj
    obtain ⟨v', w', hr, h2, h3, h4, h5⟩ := run_append_own_at (P := P) w lo t o.type E i z0 sz bytes ht hi1 hz1 hsz1 hby hz hsz v n _ hown ad m c zs hzs hnews h1
      (by unfold maxLen; omega) (by have : (n + m) * bytes ≤ (n + m) * 256 := Nat.mul_le_mul_left _ hb; omega) hlo
    have hrun2 := (run_append_types ht htx o.type Av n cv (.slice (some ad) m c) w).trans (hv ▸ hr)
    unfold Oper.wp execOp
    simp only [ho, resolve, invoke, builtin, Sem.run_bind, Sem.run_pure, Result.andThen_ok, List.map_toArray, List.map_cons, List.map_nil, hs, hx, hv, hrun2]
    exact hK _ _ (h v' w' h2 h3 h5)
theorem cells_new (w : World) (cs : List Value) (T : TypeId) (fr : Nat × Nat) (m : Nat) (hm : cs.length = m) : CellsAt (w.alloc (.cells cs.toArray T fr)) (w.heap.size + 1) (some ⟨w.heap.size, 0, none⟩) m cs :=
  ⟨hm, fun _ => ⟨_, rfl, by simp, fun j u hj => by rw [add_head, cell_of_row _ _ j cs.toArray T fr (heap_alloc_new w _)]; simpa using hj⟩⟩
/-- 'append(v, x)', one element: it lies in a block of its own, the newest. -/
theorem wpList_appR1 (hgd : o.guard = none) (s x : Operand) (t : TypeId)
    (ho : o.op = .call { callee := .builtin .append, args := #[s, x], argTypes := #[t, t] })
    (E : TypeId) (z0 : Value) (sz bytes : Nat) (ht : P.underlying t = some (.slice E)) (hi : (P.info? E).map (fun i => (i.zero, i.size, i.bytes)) = some (some z0, sz, bytes)) (hz : z0.cells.size = sz) (hsz : 0 < sz) (hb : bytes ≤ 256)
    (lo : Nat) (v : Value) (n : Nat) (xs : List Value) (hs : a.eval s = v) (hown : w.ownsRow lo E sz v n xs) (hbytes : n < 274877906944)
    (cs : List Value) (hcs : cs.length = sz) (h1 : ∀ u ∈ cs, u.oneCell' = true) (fr : Nat × Nat) (T : TypeId) (H : Nat) (hlo : lo ≤ H) (hx : a.eval x = .slice (some ⟨H, 0, none⟩) 1 1) (hH : (w.alloc (.cells cs.toArray T fr)).heap.size = H + 1)
    (h : ∀ v' w', w'.ownsRow lo E sz v' (n + 1) (xs ++ cs) → (w.alloc (.cells cs.toArray T fr)).grownBy w' v.ownBlock → (v'.ownBlock = v.ownBlock ∨ v'.ownBlock = some (H + 1)) → wpList P ops Q rest (a.put o.dst v') w') :
    wpList P ops Q (o :: rest) a (w.alloc (.cells cs.toArray T fr)) := by
  have hH' : w.heap.size = H := by simpa using hH
  subst hH'
  refine wpList_appR hgd s x t t ho E E z0 sz bytes ht ht hi hz hsz hb lo v n xs hs (World.ownsRow.alloc hown _) (some ⟨w.heap.size, 0, none⟩) 1 1 (w.heap.size + 1) cs hx (cells_new w cs T fr _ (by omega)) h1 (by simp) (by omega) (by simp; omega) (fun v' w' h1 h2 h3 => h v' w' h1 h2 (by simpa using h3))
/-- 'make([]T, n)'. -/
theorem wpList_mkR (hg : o.guard = none) (l c : Operand) (t : TypeId) (hop : o.op = Op.makeSlice t l c)
    (E : TypeId) (z0 : Value) (sz bytes : Nat) (ht : P.underlying t = some (.slice E)) (hi : (P.info? E).map (fun i => (i.zero, i.size, i.bytes)) = some (some z0, sz, bytes)) (hb : bytes ≤ 256)
    (L C : Int) (n : Nat) (hl : a.eval l = .int .i64 L) (hc : a.eval c = .int .i64 C) (hL : L = (n : Int)) (hC : C = (n : Int)) (hn : n ≤ 274877906944)
    (hK : ∀ w', w'.ownsRow w.heap.size E sz (.slice (some ⟨w.heap.size, 0, none⟩) n n) n (madeCells z0.cells (n * sz)).toList → w.grownBy w' none → wpList P ops Q rest (a.put o.dst (.slice (some ⟨w.heap.size, 0, none⟩) n n)) w') :
    wpList P ops Q (o :: rest) a w := by
  obtain ⟨i, hi1, hz, hsz, hby⟩ := info_parts hi
  exact wpList_make_full w hg l c t hop w.heap.size E i z0 sz ht hi1 hz hsz .i64 .i64 L C n hl hc hL hC (by rw [hby]; have : bytes * n ≤ 256 * n := Nat.mul_le_mul_right _ hb; omega) (by unfold maxLen; omega) (Nat.le_refl _) fun w' h1 h2 => hK w' h1 h2
/-- 'append(v, x)', one element, at a step of a region that draws its order. -/
theorem step_appR1 {K : Act → World → Prop} {F : Prop} (hgd : o.guard = none) (s x : Operand) (t : TypeId)
    (ho : o.op = .call { callee := .builtin .append, args := #[s, x], argTypes := #[t, t] })
    (E : TypeId) (z0 : Value) (sz bytes : Nat) (ht : P.underlying t = some (.slice E)) (hi : (P.info? E).map (fun i => (i.zero, i.size, i.bytes)) = some (some z0, sz, bytes)) (hz : z0.cells.size = sz) (hsz : 0 < sz) (hb : bytes ≤ 256)
    (lo : Nat) (v : Value) (n : Nat) (xs : List Value) (hs : a.eval s = v) (hown : w.ownsRow lo E sz v n xs) (hbytes : n < 274877906944)
    (cs : List Value) (hcs : cs.length = sz) (h1 : ∀ u ∈ cs, u.oneCell' = true) (H : Nat) (hlo : lo ≤ w.heap.size) (hx : a.eval x = .slice (some ⟨H, 0, none⟩) 1 1) (hc : ∀ (j : Nat) u, cs[j]? = some u → w.cell? ⟨H, j, none⟩ = some u)
    (h : ∀ v' w', w'.ownsRow lo E sz v' (n + 1) (xs ++ cs) → w.grownBy w' v.ownBlock → K (a.put o.dst v') w') :
    if Region.wanted o (yielded ops a.tmps) = true then Oper.wp P o a w K Q else F := by
  obtain ⟨i, hi1, hz1, hsz1, hby⟩ := info_parts hi
  refine step_append_lies w hgd s x t ho lo E i z0 sz bytes ht hi1 hz1 hsz1 hby hz hsz v n _ hs hown ⟨H, 0, none⟩ 1 1 cs hx (by omega) (fun j u hu => by rw [add_head]; exact hc j u hu) h1 (by omega) (by unfold maxLen; omega)
    (by have : (n + 1) * bytes ≤ (n + 1) * 256 := Nat.mul_le_mul_left _ hb; omega) hlo _ rfl ?_
  intro g cap w' h1 h2 _ _
  exact h _ w' h1 h2
end

theorem results_cell {fn : Func} {p : Tmp} {ty : TypeId} (h : fn.results = #[.cell p ty]) (tmps : Array Value) (P : Program) (w : World) :
    (results fn tmps).run P w = ((asAddr (tmps.getD p undef)).run P w).andThen fun a w₁ => (loadVar ty a).run P w₁ := by
  simp only [results, h]
  simp [Sem.run_bind, Result.andThen]
theorem set_at {pre rest : List Value} {z a : Value} {m : Nat} (h : pre.length = m) : (pre ++ z :: rest).set m a = pre ++ a :: rest := by
  subst h
  rw [List.set_append_right _ _ (Nat.le_refl _), Nat.sub_self, List.set_cons_zero]
theorem set4 {pre rest : List Value} {z0 z1 z2 z3 a b c d : Value} {m : Nat} (h : pre.length = m) : ((((pre ++ z0 :: z1 :: z2 :: z3 :: rest).set m a).set (m + 1) b).set (m + 2) c).set (m + 3) d = pre ++ a :: b :: c :: d :: rest := by
  rw [set_at h]
  have e1 : pre ++ a :: z1 :: z2 :: z3 :: rest = (pre ++ [a]) ++ z1 :: z2 :: z3 :: rest := by simp
  rw [e1, set_at (by simp [h])]
  have e2 : (pre ++ [a]) ++ b :: z2 :: z3 :: rest = (pre ++ [a, b]) ++ z2 :: z3 :: rest := by simp
  rw [e2, set_at (by simp [h])]
  have e3 : (pre ++ [a, b]) ++ c :: z3 :: rest = (pre ++ [a, b, c]) ++ z3 :: rest := by simp
  rw [e3, set_at (by simp [h])]
  simp
theorem drop4 {zs : List Value} {m : Nat} (h : m + 4 ≤ zs.length) : ∃ z0 z1 z2 z3, zs.drop m = z0 :: z1 :: z2 :: z3 :: zs.drop (m + 4) :=
  ⟨zs[m], zs[m + 1], zs[m + 2], zs[m + 3], by
    rw [List.drop_eq_getElem_cons (by omega), List.drop_eq_getElem_cons (by omega), List.drop_eq_getElem_cons (by omega), List.drop_eq_getElem_cons (by omega)]⟩
/-! Rows of a list's elements, each of so many cells. -/
section
variable {α : Type} {f : α → List Value} {s : Nat}
theorem flat_length (hf : ∀ x, (f x).length = s) (l : List α) : (l.flatMap f).length = l.length * s := by
  induction l with
  | nil => simp
  | cons x l ih => rw [List.flatMap_cons, List.length_append, hf, ih, List.length_cons, Nat.add_mul]; omega
theorem flat_get (hf : ∀ x, (f x).length = s) : ∀ (l : List α) (j i : Nat) (x : α), l[j]? = some x → i < s → (l.flatMap f)[j * s + i]? = (f x)[i]?
  | [], j, i, x, h, _ => by simp at h
  | y :: l, 0, i, x, h, hi => by
    simp at h
    subst h
    rw [List.flatMap_cons, List.getElem?_append_left (by rw [hf]; omega)]
    simp
  | y :: l, j + 1, i, x, h, hi => by
    rw [List.flatMap_cons, List.getElem?_append_right (by rw [hf, Nat.add_mul]; omega), hf]
    have e : (j + 1) * s + i - s = j * s + i := by rw [Nat.add_mul]; omega
    rw [e]
    exact flat_get hf l j i x (by simpa using h) hi
end
end Go.Proofs.Ytmcoeafkbpeelaa
