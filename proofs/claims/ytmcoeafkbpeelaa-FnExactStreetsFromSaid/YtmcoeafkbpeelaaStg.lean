/- Chapter 6's model: ascending lists of numbers. -/
import Derived.Test.YtmcoeafkbpeelaaTog2
import Derived.Test.YtmcoeafkbpeelaaInts
namespace Go.Proofs.Ytmcoeafkbpeelaa
open Go.RowKit
set_option linter.unusedVariables false

/-- 'append(v, x...)' at a step of a region that draws its order. -/
theorem step_app {P : Program} {w : World} {ops : Array Oper} {o : Oper} {a : Act} {K : Act → World → Prop} {Q : Exit → Act → World → Prop} {F : Prop} (hgd : o.guard = none) (s x : Operand) (t : TypeId)
    (ho : o.op = .call { callee := .builtin .append, args := #[s, x], argTypes := #[t, t] })
    (k : IntKind) (E : TypeId) (bytes : Nat) (ht : P.underlying t = some (.slice E)) (hi : (P.info? E).map (fun i => (i.zero, i.size, i.bytes)) = some (some (.int k 0), 1, bytes))
    (lo : Nat) (v : Value) (xs : List Int) (hs : a.eval s = v) (hown : Own k E w lo v xs)
    (A : Option Addr) (m c B : Nat) (zs : List Int) (hx : a.eval x = .slice A m c) (hsrc : IntsAt k w B A m zs) (hnil : A = none → m = 0 ∧ c = 0) (hb : bytes ≤ 8)
    (hbytes : xs.length + m ≤ 4398046511104) (hlo : lo ≤ w.heap.size)
    (h : ∀ v' w', Own k E w' lo v' (xs ++ zs) → w.grownBy w' v.ownBlock → K (a.put o.dst v') w') :
    if Region.wanted o (yielded ops a.tmps) = true then Oper.wp P o a w K Q else F := by
  rw [if_pos (by simp [Region.wanted, hgd])]
  obtain ⟨i, hi1, hz, hsz, hby⟩ := info_parts hi
  have hzs := hsrc.1
  obtain ⟨Av, cv, hv⟩ := hown.sliced
  cases A with
  | none =>
    obtain ⟨rfl, rfl⟩ := hnil rfl
    have hz0 : zs = [] := List.eq_nil_of_length_eq_zero hzs
    subst hz0
    have hrun := run_append_owned_none (P := P) (w := w) lo t o.type E i 1 ht hi1 v xs.length _ hown
    have hrun2 := (run_append_types ht ht o.type Av xs.length cv (.slice none 0 0) w).trans (hv ▸ hrun)
    unfold Oper.wp
    simp [execOp, ho, resolve, invoke, builtin, hs, hx, hv, hrun2, Result.andThen]
    exact hv ▸ h v w (by rw [List.append_nil]; exact hown) (World.grownBy.refl _ _)
  | some ad =>
    obtain ⟨v', w', hr, h2, h3, h4, h5⟩ := run_append_own_at (P := P) w lo t o.type E i (.int k 0) 1 bytes ht hi1 hz hsz hby rfl (by omega) v xs.length _ hown ad m c (zs.map (Value.int k)) (by simp [hzs]) (ints_news hsrc) (ints_one k zs)
      (by unfold maxLen; omega) (by have : (xs.length + m) * bytes ≤ (xs.length + m) * 8 := Nat.mul_le_mul_left _ hb; omega) hlo
    have hrun2 := (run_append_types ht ht o.type Av xs.length cv (.slice (some ad) m c) w).trans (hv ▸ hr)
    unfold Oper.wp execOp
    simp only [ho, resolve, invoke, builtin, Sem.run_bind, Sem.run_pure, Result.andThen_ok, List.map_toArray, List.map_cons, List.map_nil, hs, hx, hv, hrun2]
    refine h v' w' ?_ h3
    unfold Own
    rw [List.length_append, List.map_append, hzs]
    exact h2
/-- 'append(v, x)', one number, at such a step. -/
theorem step_one {P : Program} {w : World} {ops : Array Oper} {o : Oper} {a : Act} {K : Act → World → Prop} {Q : Exit → Act → World → Prop} {F : Prop} (hgd : o.guard = none) (s x : Operand) (t : TypeId)
    (ho : o.op = .call { callee := .builtin .append, args := #[s, x], argTypes := #[t, t] })
    (k : IntKind) (E : TypeId) (bytes : Nat) (ht : P.underlying t = some (.slice E)) (hi : (P.info? E).map (fun i => (i.zero, i.size, i.bytes)) = some (some (.int k 0), 1, bytes))
    (lo : Nat) (v : Value) (xs : List Int) (hs : a.eval s = v) (hown : Own k E w lo v xs) (hb : bytes ≤ 8) (hbytes : xs.length < 4398046511104)
    (z : Int) (H : Nat) (hlo : lo ≤ w.heap.size) (hx : a.eval x = .slice (some ⟨H, 0, none⟩) 1 1) (hc : w.cell? ⟨H, 0, none⟩ = some (.int k z))
    (h : ∀ v' w', Own k E w' lo v' (xs ++ [z]) → w.grownBy w' v.ownBlock → K (a.put o.dst v') w') :
    if Region.wanted o (yielded ops a.tmps) = true then Oper.wp P o a w K Q else F :=
  step_app hgd s x t ho k E bytes ht hi lo v xs hs hown (some ⟨H, 0, none⟩) 1 1 (H + 1) [z] hx ⟨rfl, fun _ => ⟨_, rfl, by simp, fun j hj => by
    obtain rfl : j = 0 := by omega
    rw [add_head]
    exact hc⟩⟩ (by simp) hb (by omega) hlo h
/-- how many numbers at the head are below n. -/
def lowN (zs : List Int) (n : Int) : Nat := (zs.takeWhile (fun z => decide (z < n))).length
/-- a number put into an ascending list. -/
def putI (zs : List Int) (n : Int) : List Int := if zs[lowN zs n]? = some n then zs else zs.take (lowN zs n) ++ n :: zs.drop (lowN zs n)
theorem lowN_at : ∀ {zs : List Int} {n : Int} {k : Nat}, k ≤ zs.length → (∀ i, i < k → zs.getD i 0 < n) → (k < zs.length → ¬ zs.getD k 0 < n) → lowN zs n = k
  | [], n, k, hk, _, _ => by
    have : k = 0 := by simpa using hk
    subst this
    rfl
  | z :: zs, n, 0, _, _, h => by
    have := h (by simp)
    simp at this
    unfold lowN
    simp [List.takeWhile, show decide (z < n) = false from decide_eq_false (by omega)]
  | z :: zs, n, k + 1, hk, h, h2 => by
    have h0 := h 0 (by omega)
    simp at h0
    have ih := lowN_at (zs := zs) (n := n) (k := k) (by simpa using hk) (fun i hi => by simpa using h (i + 1) (by omega)) (fun hk => by simpa using h2 (by simpa using hk))
    unfold lowN at ih ⊢
    simp [List.takeWhile, show decide (z < n) = true from decide_eq_true h0, ih]
/-- what has says. -/
def hasI (zs : List Int) (n : Int) : Bool := zs.contains n
theorem hasI_no {zs : List Int} {n : Int} (h : ∀ i, i < zs.length → zs.getD i 0 ≠ n) : hasI zs n = false := by
  unfold hasI
  rw [Bool.eq_false_iff]
  intro hc
  obtain ⟨i, hi, e⟩ := List.getElem_of_mem (List.contains_iff_mem.1 hc)
  exact h i hi (by rw [List.getD_eq_getElem?_getD, List.getElem?_eq_getElem hi]; exact e)
theorem hasI_yes {zs : List Int} {n : Int} {i : Nat} (hi : i < zs.length) (h : zs.getD i 0 = n) : hasI zs n = true := by
  unfold hasI
  refine List.contains_iff_mem.2 ?_
  rw [← h, List.getD_eq_getElem?_getD, List.getElem?_eq_getElem hi]
  exact List.getElem_mem hi
/-- a block of one number that an append has left alone. -/
theorem grown_cell {W w3 : World} {row : Option Nat} (hg : W.grownBy w3 row) {H : Nat} {x : Int} {T : TypeId} (h : W.heap[H]? = some (.cells #[.int .i64 x] T (0, 0))) (hne : row ≠ some H) : w3.cell? ⟨H, 0, none⟩ = some (.int .i64 x) := by
  rw [cell_of_row w3 H 0 #[.int .i64 x] T (0, 0) ((hg.block H (lt_of_block h) (fun e => hne e.symm)).trans h)]
  rfl
/-- an empty row of the call's own. -/
theorem own_hollow {k : IntKind} {E : TypeId} {W : World} {lo g : Nat} (h : W.heap[g]? = some (.cells #[] E (0, 0))) (hl : lo ≤ g) : Own k E W lo (.slice (some ⟨g, 0, none⟩) 0 0) [] :=
  ⟨rfl, .inr ⟨g, 0, #[], rfl, hl, h, Nat.le_refl _, by decide, rfl, rfl⟩⟩
/-- the head of a list of numbers. -/
theorem IntsAt.head {k : IntKind} {w : World} {B : Nat} {A : Option Addr} {n : Nat} {zs : List Int} (h : IntsAt k w B A n zs) (m : Nat) (hm : m ≤ n) : IntsAt k w B A m (zs.take m) := by
  refine ⟨by rw [List.length_take, h.1]; omega, fun h0 => ?_⟩
  obtain ⟨ad, e, hb, hc⟩ := h.2 (by omega)
  refine ⟨ad, e, hb, fun j hj => ?_⟩
  rw [hc j (by omega), List.getD_eq_getElem?_getD, List.getD_eq_getElem?_getD, List.getElem?_take, if_pos hj]
/-- its tail. -/
theorem IntsAt.tail {k : IntKind} {w : World} {B : Nat} {ad : Addr} {n : Nat} {zs : List Int} (h : IntsAt k w B (some ad) n zs) (m : Nat) (hm : m ≤ n) : IntsAt k w B (some (ad.add m)) (n - m) (zs.drop m) := by
  refine ⟨by rw [List.length_drop, h.1], fun h0 => ?_⟩
  obtain ⟨a2, e, hb, hc⟩ := h.2 (by omega)
  injection e with e
  subst e
  refine ⟨_, rfl, by rw [add_block]; exact hb, fun j hj => ?_⟩
  rw [add_add, hc (m + j) (by omega), List.getD_eq_getElem?_getD, List.getD_eq_getElem?_getD, List.getElem?_drop]
theorem IntsAt.laid {k : IntKind} {w W : World} {B : Nat} {A : Option Addr} {n : Nat} {zs : List Int} (h : IntsAt k w B A n zs) (hB : B ≤ w.heap.size) (hb : Below w.heap.size w W) : IntsAt k W B A n zs := h.keep fun _ hp => hb.cell (by omega)
theorem alloc_heap (w : World) (o : Obj) : (w.alloc o).heap = w.heap.push o := rfl
theorem drew_heap (w : World) : w.drew.heap = w.heap := rfl
theorem spec_l6Has (A : Option Addr) (n c B : Nat) (zs : List Int) (x : Int) (w : World) (h : IntsAt .i64 w B A n zs) (hn : n ≤ 4294967296) :
    Calls Try.prog 88 #[.slice A n c, .int .i64 x] w fun e w' => e = .returned (.bool (hasI zs x)) ∧ w = w' := by
  have hl := h.1
  go_enter Try.func88, Try.ntmps88
  go_wp2
  go_loop [5] (fun i => ∃ k : Nat, k ≤ n ∧ i = .int .i64 k ∧ ∀ j, j < k → zs.getD j 0 ≠ x) (fun i => n - (intOf i).toNat)
  case atStart => exact ⟨0, Nat.zero_le _, rfl, fun j hj => absurd hj (by omega)⟩
  case round =>
    obtain ⟨k, hk, rfl, hno⟩ := hrel
    by_cases hlt : k < n
    · obtain ⟨ad, rfl, hab, hcell⟩ := h.2 (by omega)
      have hc := hcell k hlt
      have HN := Lib.hid hno
      clear hno hcell
      by_cases he : zs.getD k 0 = x
      · have HR : Hid (hasI zs x = true) := Lib.hid (hasI_yes (by omega) he)
        rw [he] at hc
        clear he
        go_wp2
        go_ret
        exact ⟨by rw [HR.out]; rfl, rfl⟩
      · have HS : Hid (∀ j, j < k + 1 → zs.getD j 0 ≠ x) := Lib.hid (fun j hj => by
          by_cases e : j = k
          · subst e; exact he
          · exact HN.out j (by omega))
        generalize zs.getD k 0 = z at *
        have e1 : (z == x) = false := by simpa using he
        clear he
        go_wp2
        go_round
        case rel => exact ⟨k + 1, by omega, by go_num, HS.out⟩
        case measure => simp [intOf]; omega
    · obtain rfl : k = n := by omega
      have HR : Hid (hasI zs x = false) := Lib.hid (hasI_no (fun i hi => hno i (by omega)))
      clear hno
      go_wp2
      go_ret
      exact ⟨by rw [HR.out]; rfl, rfl⟩
set_option maxHeartbeats 1000000 in
theorem spec_l6Put (A : Option Addr) (n c B : Nat) (zs : List Int) (x : Int) (w : World) (h : IntsAt .i64 w B A n zs) (hB : B ≤ w.heap.size) (hn : n ≤ 4294967296) (hc : n ≤ c) (hnil : A = none → n = 0 ∧ c = 0) :
    Calls Try.prog 83 #[.slice A n c, .int .i64 x] w fun e w' => ∃ v, e = .returned v ∧ Own .i64 3 w' w.heap.size v (putI zs x) ∧ Below w.heap.size w w' := by
  have hl := h.1
  have own0 := own_bare .i64 3 w
  go_enter Try.func83, Try.ntmps83
  go_wp2
  go_loop [5] (fun i => ∃ k : Nat, k ≤ n ∧ i = .int .i64 k ∧ ∀ j, j < k → zs.getD j 0 < x) (fun i => n - (intOf i).toNat)
  case atStart => exact ⟨0, Nat.zero_le _, rfl, fun j hj => absurd hj (by omega)⟩
  case round =>
    obtain ⟨k, hk, rfl, hno⟩ := hrel
    by_cases hlt : k < n
    · obtain ⟨ad, rfl, hab, hcell⟩ := h.2 (by omega)
      have hck := hcell k hlt
      have HN := Lib.hid hno
      clear hno hcell
      generalize hz : zs.getD k 0 = z at *
      have HZ := Lib.hid hz
      clear hz
      by_cases he : z < x
      · have e1 : decide (z < x) = true := decide_eq_true he
        go_wp2
        go_round
        case rel => exact ⟨k + 1, by omega, by go_num, fun j hj => by
          by_cases e : j = k
          · subst e; rw [HZ.out]; exact he
          · exact HN.out j (by omega)⟩
        case measure => simp [intOf]; omega
      · have HL : Hid (lowN zs x = k) := Lib.hid (lowN_at (by omega) HN.out (fun _ => by rw [HZ.out]; exact he))
        have hg : zs[k]? = some z := by
          rw [← HZ.out, List.getD_eq_getElem?_getD, List.getElem?_eq_getElem (by omega)]; rfl
        have e1 : decide (z < x) = false := decide_eq_false he
        by_cases he2 : z = x
        · have HR : Hid (putI zs x = [] ++ zs) := Lib.hid (by unfold putI; rw [HL.out, hg, he2]; simp)
          have e2 : (z == x) = true := by simpa using he2
          clear hg he2 he
          go_wp2_with (at_builtin; refine wpList_app rfl _ _ 23 23 rfl .i64 3 3 8 Try.underlying23 Try.underlying23 info_i64 w.heap.size _ [] rfl own0 (some ad) n c B zs rfl (h.keep fun p hp => World.cell?_of_block (Below.heap_alloc w _ _ (by omega))) (by simp) (by decide) (by simp; omega) (by simp) ?_; intro v1 w1 hown1 hgrow1 hat1; have hb1 := own0.push (Nat.le_refl _) ((Below.refl _ _).alloc (Nat.le_refl _) _) (by simp) hgrow1; clear hgrow1 hat1)
          go_ret
          exact ⟨_, rfl, by rw [HR.out]; exact hown1, hb1⟩
        · have HR : Hid (putI zs x = [] ++ zs.take k ++ [x] ++ zs.drop k) := Lib.hid (by unfold putI; rw [HL.out, hg, if_neg (by simpa using he2)]; simp)
          have e2 : (z == x) = false := by simpa using he2
          clear hg he2 he
          have i1 : (0 : Int) ≤ (k : Int) := by omega
          have i2 : (k : Int) ≤ (n : Int) := by omega
          have i3 : (k : Int) ≤ (c : Int) := by omega
          go_wp2_with fail
          have nck : ¬ c = k := by omega
          have hk1 := fun W hW => (h.head k (by omega)).laid (W := W) hB hW
          have hk2 := fun W hW => (h.tail k (by omega)).laid (W := W) hB hW
          have hlt1 : (zs.take k).length = k := by rw [List.length_take]; omega
          go_region_held3 (fun _ => True) (trivial) (first
            | (refine step_app rfl _ _ 23 rfl .i64 3 8 Try.underlying23 info_i64 w.heap.size _ [] rfl (own_hollow (by (simp only [alloc_heap, drew_heap, Array.getElem?_push, Array.size_push]; (repeat first | rw [if_neg (by omega)] | rw [if_pos (by omega)]))) (by (first | omega | (simp only [alloc_heap, drew_heap, Array.size_push]; omega)))) (some ad) k c B (zs.take k) rfl (hk1 _ (by exact ⟨rfl, rfl, rfl, by (first | omega | (simp only [alloc_heap, drew_heap, Array.size_push]; omega)), fun i hi => by (simp only [alloc_heap, drew_heap, Array.getElem?_push, Array.size_push]; (repeat first | rw [if_neg (by omega)] | rw [if_pos (by omega)]))⟩)) (by simp) (by decide) (by simp only [List.length_nil]; omega) (by (first | omega | (simp only [alloc_heap, drew_heap, Array.size_push]; omega))) ?_; intro v3 w3 hown3 hgrow3; have hb3 : Below w.heap.size w w3 := Below.grown (by exact ⟨rfl, rfl, rfl, by (first | omega | (simp only [alloc_heap, drew_heap, Array.size_push]; omega)), fun i hi => by (simp only [alloc_heap, drew_heap, Array.getElem?_push, Array.size_push]; (repeat first | rw [if_neg (by omega)] | rw [if_pos (by omega)]))⟩) hgrow3 (by (first | omega | (simp only [alloc_heap, drew_heap, Array.size_push]; omega))) (fun g' e' => by cases e'; (first | omega | (simp only [alloc_heap, drew_heap, Array.size_push]; omega))))
            | (refine step_one rfl _ _ 23 rfl .i64 3 8 Try.underlying23 info_i64 w.heap.size _ ([] ++ zs.take k) rfl (by first | exact hown3 | exact hown3.alloc _) (by decide) (by simp only [List.nil_append, hlt1]; omega) x _ (by have := hb3.size; (first | omega | (simp only [alloc_heap, drew_heap, Array.size_push]; omega))) rfl (by first | (exact (cell_of_row _ _ 0 _ _ _ (heap_alloc_new w3 _)).trans rfl) | (refine grown_cell hgrow3 (by (simp only [alloc_heap, drew_heap, Array.getElem?_push, Array.size_push]; (repeat first | rw [if_neg (by omega)] | rw [if_pos (by omega)]))) (fun e => ?_); have he := Option.some.inj e; first | omega | (simp only [alloc_heap, drew_heap, Array.size_push] at he; omega))) ?_; intro v4 w4 hown4 hgrow4; have hb4 : Below w.heap.size w w4 := hown3.push (Nat.le_refl _) (by first | exact hb3 | exact hb3.alloc hb3.size _) (by have := hb3.size; (first | omega | (simp only [alloc_heap, drew_heap, Array.size_push]; omega))) hgrow4)
            | (refine step_app rfl _ _ 23 rfl .i64 3 8 Try.underlying23 info_i64 w.heap.size _ _ rfl hown4 (some (ad.add k)) _ _ B (zs.drop k) rfl (hk2 _ hb4) (by simp) (by decide) (by simp only [List.length_append, List.nil_append, hlt1, List.length_singleton]; omega) hb4.size ?_; intro v5 w5 hown5 hgrow5; have hb5 : Below w.heap.size w w5 := hown4.push (Nat.le_refl _) hb4 hb4.size hgrow5)
            | fail "arm")
          all_goals
            go_wp2
            go_ret
            exact ⟨_, rfl, by rw [HR.out]; exact hown5, hb5⟩
    · obtain rfl : k = n := by omega
      have HR : Hid (putI zs x = [] ++ zs.take k ++ [x] ++ []) := Lib.hid (by
        unfold putI
        rw [lowN_at (k := k) (by omega) (fun i hi => hno i (by omega)) (fun h => absurd h (by omega)), List.getElem?_eq_none (by omega), if_neg (by simp), List.drop_of_length_le (by omega)]
        simp)
      have hk1 := fun W hW => (h.head k (by omega)).laid (W := W) hB hW
      have hl1 : (zs.take k).length = k := by rw [List.length_take]; omega
      have hk2 : ∀ (W : World) (A' : Option Addr), IntsAt .i64 W B A' 0 [] := fun W A' => ⟨rfl, fun h => absurd h (by omega)⟩
      generalize zs.take k = l at *
      clear hno h hl hlt hk own0
      have hcs : (A = none ∧ k = 0 ∧ c = 0) ∨ (∃ ad, A = some ad ∧ c = k) ∨ (∃ ad, A = some ad ∧ ¬ c = k) := by
        cases A with
        | none => exact .inl ⟨rfl, hnil rfl⟩
        | some ad => by_cases e : c = k
                     · exact .inr (.inl ⟨ad, rfl, e⟩)
                     · exact .inr (.inr ⟨ad, rfl, e⟩)
      rcases hcs with ⟨rfl, rfl, rfl⟩ | ⟨ad, rfl, rfl⟩ | ⟨ad, rfl, nck⟩
      all_goals
        go_wp2_with fail
        go_region_held3 (fun _ => True) (trivial) (first
          | (refine step_app rfl _ _ 23 rfl .i64 3 8 Try.underlying23 info_i64 w.heap.size _ [] rfl (own_hollow (by (simp only [alloc_heap, drew_heap, Array.getElem?_push, Array.size_push]; (repeat first | rw [if_neg (by omega)] | rw [if_pos (by omega)]))) (by (first | omega | (simp only [alloc_heap, drew_heap, Array.size_push]; omega)))) _ _ _ B l rfl (hk1 _ (by exact ⟨rfl, rfl, rfl, by (first | omega | (simp only [alloc_heap, drew_heap, Array.size_push]; omega)), fun i hi => by (simp only [alloc_heap, drew_heap, Array.getElem?_push, Array.size_push]; (repeat first | rw [if_neg (by omega)] | rw [if_pos (by omega)]))⟩)) (by simp) (by decide) (by simp only [List.length_nil]; omega) (by (first | omega | (simp only [alloc_heap, drew_heap, Array.size_push]; omega))) ?_; intro v3 w3 hown3 hgrow3; have hb3 : Below w.heap.size w w3 := Below.grown (by exact ⟨rfl, rfl, rfl, by (first | omega | (simp only [alloc_heap, drew_heap, Array.size_push]; omega)), fun i hi => by (simp only [alloc_heap, drew_heap, Array.getElem?_push, Array.size_push]; (repeat first | rw [if_neg (by omega)] | rw [if_pos (by omega)]))⟩) hgrow3 (by (first | omega | (simp only [alloc_heap, drew_heap, Array.size_push]; omega))) (fun g' e' => by cases e'; (first | omega | (simp only [alloc_heap, drew_heap, Array.size_push]; omega))))
          | (refine step_one rfl _ _ 23 rfl .i64 3 8 Try.underlying23 info_i64 w.heap.size _ ([] ++ l) rfl (by first | exact hown3 | exact hown3.alloc _) (by decide) (by simp only [List.nil_append]; omega) x _ (by have := hb3.size; (first | omega | (simp only [alloc_heap, drew_heap, Array.size_push]; omega))) rfl (by first | (exact (cell_of_row _ _ 0 _ _ _ (heap_alloc_new w3 _)).trans rfl) | (refine grown_cell hgrow3 (by (simp only [alloc_heap, drew_heap, Array.getElem?_push, Array.size_push]; (repeat first | rw [if_neg (by omega)] | rw [if_pos (by omega)]))) (fun e => ?_); have he := Option.some.inj e; first | omega | (simp only [alloc_heap, drew_heap, Array.size_push] at he; omega))) ?_; intro v4 w4 hown4 hgrow4; have hb4 : Below w.heap.size w w4 := hown3.push (Nat.le_refl _) (by first | exact hb3 | exact hb3.alloc hb3.size _) (by have := hb3.size; (first | omega | (simp only [alloc_heap, drew_heap, Array.size_push]; omega))) hgrow4)
          | (refine step_app rfl _ _ 23 rfl .i64 3 8 Try.underlying23 info_i64 w.heap.size _ _ rfl hown4 _ _ _ B [] rfl (hk2 _ _) (by simp) (by decide) (by simp only [List.length_append, List.nil_append, List.length_singleton]; omega) hb4.size ?_; intro v5 w5 hown5 hgrow5; have hb5 : Below w.heap.size w w5 := hown4.push (Nat.le_refl _) hb4 hb4.size hgrow5)
          | fail "arm")
        all_goals
          go_wp2
          go_ret
          exact ⟨_, rfl, by rw [HR.out]; exact hown5, hb5⟩
end Go.Proofs.Ytmcoeafkbpeelaa
