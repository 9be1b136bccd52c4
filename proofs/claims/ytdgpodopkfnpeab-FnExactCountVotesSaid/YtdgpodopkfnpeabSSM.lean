/- The laws' helpers for slices of slices of numbers. -/
import Derived.Test.YtdgpodopkfnpeabSS
import Derived.Test.YtdgpodopkfnpeabMem
import Derived.Test.YtdgpodopkfnpeabHelp
import Derived.Deep.RegionHeld3
namespace Go.Proofs.Ytdgpodopkfnpeab
open Go.RowKit
set_option linter.unusedVariables false

/-- no two of these lie in one block. -/
def ApartL (us : List Value) : Prop := ∀ (i j : Nat) (u u' : Value), i ≠ j → us[i]? = some u → us[j]? = some u' → ∀ g, u.ownBlock = some g → u'.ownBlock ≠ some g
theorem ApartL.nil : ApartL [] := fun i j u u' _ h => by simp at h
theorem ApartL.snoc {us : List Value} {u : Value} {b : Nat} (h : ApartL us) (h1 : ∀ x ∈ us, ∀ g, x.ownBlock = some g → g < b) (h2 : ∀ g, u.ownBlock = some g → b ≤ g) : ApartL (us ++ [u]) := by
  intro i j x y hij hx hy g hg e
  rw [List.getElem?_append] at hx hy
  split at hx
  · rename_i hi
    split at hy
    · exact h i j x y hij hx hy g hg e
    · rename_i hj
      have : j - us.length = 0 := by
        have := (List.getElem?_eq_some_iff.1 hy).1
        simp at this; omega
      rw [this] at hy
      simp at hy
      subst hy
      have := h1 x (List.mem_of_getElem? hx) g hg
      have := h2 g e
      omega
  · rename_i hi
    have hi0 : i - us.length = 0 := by
      have := (List.getElem?_eq_some_iff.1 hx).1
      simp at this; omega
    rw [hi0] at hx
    simp at hx
    subst hx
    split at hy
    · have := h1 y (List.mem_of_getElem? hy) g e
      have := h2 g hg
      omega
    · rename_i hj
      have : j - us.length = 0 := by
        have := (List.getElem?_eq_some_iff.1 hy).1
        simp at this; omega
      omega
/-- a row of rows of the call's own; each row in its own block. -/
structure OwnD (w : World) (lo : Nat) (v : Value) (us : List Value) (zss : List (List Int)) : Prop where
  row : w.ownsRow lo 48 1 v zss.length us
  each : ∀ j, j < zss.length → ∃ u, us[j]? = some u ∧ Own .i64 3 w lo u (zss.getD j [])
  apart : ApartL us
theorem OwnD.len {w : World} {lo : Nat} {v : Value} {us : List Value} {zss : List (List Int)} (h : OwnD w lo v us zss) : us.length = zss.length := by have := h.row.1; omega
theorem OwnD.ss {w : World} {lo : Nat} {v : Value} {us : List Value} {zss : List (List Int)} (h : OwnD w lo v us zss) : OwnSS w lo v zss := ⟨us, h.row, h.each⟩
theorem OwnD.below {w w' : World} {lo : Nat} {v : Value} {us : List Value} {zss : List (List Int)} (h : OwnD w lo v us zss) (hb : Below w.heap.size w w') : OwnD w' lo v us zss :=
  ⟨ownr_below h.row hb, fun j hj => by obtain ⟨u, h1, h2⟩ := h.each j hj; exact ⟨u, h1, h2.below hb⟩, h.apart⟩
theorem OwnD.mono {w : World} {lo lo' : Nat} {v : Value} {us : List Value} {zss : List (List Int)} (h : OwnD w lo v us zss) (hl : lo' ≤ lo) : OwnD w lo' v us zss :=
  ⟨ownr_mono h.row hl, fun j hj => by obtain ⟨u, h1, h2⟩ := h.each j hj; exact ⟨u, h1, h2.mono hl⟩, h.apart⟩
theorem OwnSS.rows {w : World} {lo : Nat} {A : Option Addr} {n c : Nat} {zss : List (List Int)} (h : OwnSS w lo (.slice A n c) zss) : SSAt w w.heap.size A n zss := by
  obtain ⟨vs, hr, hi⟩ := h
  have hn := ownr_len hr
  subst hn
  refine ⟨rfl, fun h0 => ?_⟩
  have hcl := (ownr_cells hr).2 (by omega)
  obtain ⟨ad, e, hb, hc⟩ := hcl
  refine ⟨ad, e, hb, fun j hj => ?_⟩
  obtain ⟨u, h1, h2⟩ := hi j hj
  obtain ⟨A', c', rfl⟩ := h2.sliced
  refine ⟨A', _, c', hc j _ h1, ?_, (ownr_cap h2).1, ownr_nilcap h2⟩
  exact h2.ints
theorem OwnSS.cap {w : World} {lo : Nat} {A : Option Addr} {n c : Nat} {zss : List (List Int)} (h : OwnSS w lo (.slice A n c) zss) : (A = none → n = 0 ∧ c = 0) ∧ n ≤ c ∧ c ≤ maxLen := by
  obtain ⟨vs, hr, hi⟩ := h
  exact ⟨ownr_nilcap hr, ownr_cap hr⟩
theorem SSAt.keep {w w' : World} {B : Nat} {A : Option Addr} {n : Nat} {zss : List (List Int)} (h : SSAt w B A n zss) (hk : ∀ p : Addr, p.block < B → w'.cell? p = w.cell? p) : SSAt w' B A n zss := by
  refine ⟨h.1, fun h0 => ?_⟩
  obtain ⟨ad, e, hb, hc⟩ := h.2 h0
  refine ⟨ad, e, hb, fun j hj => ?_⟩
  obtain ⟨A', m, c, h1, h2, h3, h4⟩ := hc j hj
  exact ⟨A', m, c, (hk _ (by rw [add_block]; exact hb)).trans h1, h2.keep hk, h3, h4⟩
theorem SSAt.up {w : World} {B B' : Nat} {A : Option Addr} {n : Nat} {zss : List (List Int)} (h : SSAt w B A n zss) (hB : B ≤ B') : SSAt w B' A n zss := by
  refine ⟨h.1, fun h0 => ?_⟩
  obtain ⟨ad, e, hb, hc⟩ := h.2 h0
  refine ⟨ad, e, by omega, fun j hj => ?_⟩
  obtain ⟨A', m, c, h1, h2, h3, h4⟩ := hc j hj
  exact ⟨A', m, c, h1, h2.up hB, h3, h4⟩
theorem made_nils (n : Nat) : (madeCells (Value.slice none 0 0).cells (n * 1)).toList = List.replicate n (Value.slice none 0 0) := by
  simp only [madeCells, Value.cells]
  apply List.ext_getElem?
  intro i
  simp only [Array.toList_map, List.getElem?_map, Nat.mul_one]
  by_cases h : i < n
  · simp [h, Nat.mod_one]
  · simp [h]
theorem set_next (us : List Value) (n : Nat) (u : Value) (h : us.length < n) : (us ++ List.replicate (n - us.length) (Value.slice none 0 0)).set us.length u = (us ++ [u]) ++ List.replicate (n - (us ++ [u]).length) (Value.slice none 0 0) := by
  rw [List.set_append_right _ _ (Nat.le_refl _), Nat.sub_self, List.length_append, List.length_singleton]
  have e : n - us.length = (n - (us.length + 1)) + 1 := by omega
  rw [e, List.replicate_succ, List.set_cons_zero]
  simp
theorem apart_row {w : World} {lo lo2 : Nat} {u v : Value} {zs : List Int} {n : Nat} {vs : List Value} (h : Own .i64 3 w lo u zs) (h2 : w.ownsRow lo2 48 1 v n vs) : ∀ g, u.ownBlock = some g → v.ownBlock ≠ some g := own_apart h h2
theorem sz_ints (A : Option Addr) (n c : Nat) (left : Int) (w : World) (hn : n ≤ 9223372036854775807) (hl : 0 ≤ left ∧ left ≤ 1048576) :
    Calls Try.prog 83 #[.slice A n c, .int .i64 left] w fun e w' => e = .returned (.int .i64 (if (n : Int) ≤ left then left - (n : Int) else -1)) ∧ w = w' := by
  obtain ⟨l1, l2⟩ := hl
  by_cases h : (n : Int) ≤ left
  · rw [if_pos h]
    go_enter Try.func83, Try.ntmps83
    go_wp2
    go_ret
    exact ⟨rfl, rfl⟩
  · rw [if_neg h]
    go_enter Try.func83, Try.ntmps83
    go_wp2
    go_ret
    exact ⟨rfl, rfl⟩
/-- a slice of slices that a call is given. -/
structure SlSS (w : World) (A : Option Addr) (n c : Nat) (zss : List (List Int)) : Prop where
  ss : SSAt w w.heap.size A n zss
  bare : A = none → n = 0 ∧ c = 0
  cap : n ≤ c ∧ c ≤ maxLen
/-- few and short. -/
def SmallSS (zss : List (List Int)) : Prop := zss.length ≤ 1048576 ∧ ∀ j, j < zss.length → (zss.getD j []).length ≤ 1048576
theorem SmallSS.at {zss : List (List Int)} (h : SmallSS zss) (n M : Nat) (hn : n = zss.length) (hM : 1048576 ≤ M) : ∀ j, j < n → (zss.getD j []).length ≤ M := fun j hj => Nat.le_trans (h.2 j (by omega)) hM
/-- rows of the call's own, between two block numbers. -/
structure OwD (w : World) (lo hi : Nat) (v : Value) (us : List Value) (zss : List (List Int)) : Prop where
  own : OwnD w lo v us zss
  lt : ∀ g, v.ownBlock = some g → g < hi
  ltu : ∀ u ∈ us, ∀ g, u.ownBlock = some g → lo ≤ g ∧ g < hi
  top : hi ≤ w.heap.size
theorem OwnD.inner {w : World} {lo : Nat} {v : Value} {us : List Value} {zss : List (List Int)} (h : OwnD w lo v us zss) {u : Value} (hu : u ∈ us) : ∃ zs, Own .i64 3 w lo u zs := by
  obtain ⟨j, hj, rfl⟩ := List.getElem_of_mem hu
  have hl := h.len
  obtain ⟨x, h1, h2⟩ := h.each j (by omega)
  rw [List.getElem?_eq_getElem hj] at h1
  injection h1 with h1
  subst h1
  exact ⟨_, h2⟩
theorem OwD.new {w : World} {lo : Nat} {v : Value} {us : List Value} {zss : List (List Int)} (h : OwnD w lo v us zss) : OwD w lo w.heap.size v us zss :=
  ⟨h, fun g e => (ownr_block h.row g e).2, fun u hu g e => by obtain ⟨zs, ho⟩ := h.inner hu; exact ho.block g e, Nat.le_refl _⟩
theorem OwD.below {w w' : World} {lo hi : Nat} {v : Value} {us : List Value} {zss : List (List Int)} (h : OwD w lo hi v us zss) (hb : Below w.heap.size w w') : OwD w' lo hi v us zss := ⟨h.own.below hb, h.lt, h.ltu, Nat.le_trans h.top hb.size⟩
theorem OwD.ints {w : World} {lo hi : Nat} {A : Option Addr} {n c : Nat} {us : List Value} {zss : List (List Int)} (h : OwD w lo hi (.slice A n c) us zss) : SSAt w w.heap.size A n zss := h.own.ss.rows
theorem OwD.sl {w : World} {lo hi : Nat} {A : Option Addr} {n c : Nat} {us : List Value} {zss : List (List Int)} (h : OwD w lo hi (.slice A n c) us zss) : SlSS w A n c zss := ⟨h.ints, h.own.ss.cap.1, h.own.ss.cap.2⟩
theorem OwD.part {w w' : World} {lo hi l h' : Nat} {v : Value} {us : List Value} {zss : List (List Int)} (h : OwD w lo hi v us zss) (hp : Part l h' w w') (hd : hi ≤ l ∨ h' ≤ lo) : OwD w' lo hi v us zss := by
  refine ⟨⟨?_, fun j hj => ?_, h.own.apart⟩, h.lt, h.ltu, Nat.le_trans h.top hp.size⟩
  · refine ⟨h.own.row.1, ?_⟩
    rcases h.own.row.2 with h2 | ⟨g, cap, cur, rfl, hl, hg, r⟩
    · exact .inl h2
    · have hlt := h.lt g rfl
      have htop := h.top
      exact .inr ⟨g, cap, cur, rfl, hl, (hp.block g (by omega) (by omega)).trans hg, r⟩
  · obtain ⟨u, h1, h2⟩ := h.own.each j hj
    refine ⟨u, h1, h2.1, ?_⟩
    have hu := List.mem_of_getElem? h1
    rcases h2.2 with h3 | ⟨g, cap, cur, rfl, hl, hg, r⟩
    · exact .inl h3
    · have hlt := h.ltu _ hu g rfl
      have htop := h.top
      exact .inr ⟨g, cap, cur, rfl, hl, (hp.block g (by omega) (by omega)).trans hg, r⟩
/-- how many numbers the first k rows hold. -/
def tot (zss : List (List Int)) (k : Nat) : Nat := ((zss.take k).map List.length).sum
theorem tot_zero (zss : List (List Int)) : tot zss 0 = 0 := by simp [tot]
theorem tot_succ {zss : List (List Int)} {k : Nat} (h : k < zss.length) : tot zss (k + 1) = tot zss k + (zss.getD k []).length := by
  unfold tot
  rw [List.take_add_one, List.getElem?_eq_getElem h, List.map_append, List.sum_append, List.getD_eq_getElem?_getD, List.getElem?_eq_getElem h]
  simp
theorem tot_le {zss : List (List Int)} (h : SmallSS zss) : ∀ k, k ≤ zss.length → tot zss k ≤ k * 1048576
  | 0, _ => by rw [tot_zero]; exact Nat.zero_le _
  | k + 1, hk => by
    have ih := tot_le h k (by omega)
    have := h.2 k (by omega)
    rw [tot_succ (by omega)]
    omega
theorem tot_top {zss : List (List Int)} (h : SmallSS zss) {k : Nat} (hk : k ≤ zss.length) : tot zss k ≤ 1099511627776 := by
  have h1 := tot_le h k hk
  have h2 := h.1
  have : k * 1048576 ≤ 1048576 * 1048576 := Nat.mul_le_mul_right _ (by omega)
  omega
/-- the first k rows marked. -/
def mixS (s : Nat) (zss : List (List Int)) (k : Nat) : List (List Int) := (List.range zss.length).map fun j => if j < k then marks .i64 ((s + tot zss j : Nat) : Int) (zss.getD j []).length else zss.getD j []
theorem mixS_len (s : Nat) (zss : List (List Int)) (k : Nat) : (mixS s zss k).length = zss.length := by simp [mixS]
theorem mixS_at (s : Nat) (zss : List (List Int)) (k : Nat) {j : Nat} (h : j < zss.length) : (mixS s zss k).getD j [] = if j < k then marks .i64 ((s + tot zss j : Nat) : Int) (zss.getD j []).length else zss.getD j [] := by
  simp [mixS, List.getD_eq_getElem?_getD, h]
theorem mixS_row (s : Nat) (zss : List (List Int)) (k : Nat) {j : Nat} (h : j < zss.length) : ((mixS s zss k).getD j []).length = (zss.getD j []).length := by
  rw [mixS_at s zss k h]
  split
  · rw [marks_length]
  · rfl
theorem mixS_zero (s : Nat) (zss : List (List Int)) : mixS s zss 0 = zss := by
  apply List.ext_getElem?
  intro i
  by_cases h : i < zss.length
  · simp [mixS, h]
  · rw [List.getElem?_eq_none (by rw [mixS_len]; omega), List.getElem?_eq_none (by omega)]
/-- the same, where nothing is said of two rows' blocks. -/
structure OwE (w : World) (lo hi : Nat) (v : Value) (us : List Value) (zss : List (List Int)) : Prop where
  row : w.ownsRow lo 48 1 v zss.length us
  each : ∀ j, j < zss.length → ∃ u, us[j]? = some u ∧ Own .i64 3 w lo u (zss.getD j [])
  lt : ∀ g, v.ownBlock = some g → g < hi
  ltu : ∀ (j : Nat) (u : Value), us[j]? = some u → ∀ g, u.ownBlock = some g → lo ≤ g ∧ g < hi
  top : hi ≤ w.heap.size
theorem OwE.new {w : World} {lo : Nat} {v : Value} {us : List Value} {zss : List (List Int)} (hr : w.ownsRow lo 48 1 v zss.length us) (hi : ∀ j, j < zss.length → ∃ u, us[j]? = some u ∧ Own .i64 3 w lo u (zss.getD j [])) : OwE w lo w.heap.size v us zss :=
  ⟨hr, hi, fun g e => (ownr_block hr g e).2, fun j u hj g e => by
    have hl := hr.1
    obtain ⟨u', h1, h2⟩ := hi j (by have := (List.getElem?_eq_some_iff.1 hj).1; omega)
    rw [hj] at h1
    injection h1 with h1
    subst h1
    exact h2.block g e, Nat.le_refl _⟩
theorem OwE.below {w w' : World} {lo hi : Nat} {v : Value} {us : List Value} {zss : List (List Int)} (h : OwE w lo hi v us zss) (hb : Below w.heap.size w w') : OwE w' lo hi v us zss :=
  ⟨ownr_below h.row hb, fun j hj => by obtain ⟨u, h1, h2⟩ := h.each j hj; exact ⟨u, h1, h2.below hb⟩, h.lt, h.ltu, Nat.le_trans h.top hb.size⟩
theorem OwE.ints {w : World} {lo hi : Nat} {A : Option Addr} {n c : Nat} {us : List Value} {zss : List (List Int)} (h : OwE w lo hi (.slice A n c) us zss) : SSAt w w.heap.size A n zss := OwnSS.rows ⟨us, h.row, h.each⟩
theorem OwE.part {w w' : World} {lo hi l h' : Nat} {v : Value} {us : List Value} {zss : List (List Int)} (h : OwE w lo hi v us zss) (hp : Part l h' w w') (hd : hi ≤ l ∨ h' ≤ lo) : OwE w' lo hi v us zss := by
  refine ⟨?_, fun j hj => ?_, h.lt, h.ltu, Nat.le_trans h.top hp.size⟩
  · refine ⟨h.row.1, ?_⟩
    rcases h.row.2 with h2 | ⟨g, cap, cur, rfl, hl, hg, r⟩
    · exact .inl h2
    · have hlt := h.lt g rfl
      have htop := h.top
      exact .inr ⟨g, cap, cur, rfl, hl, (hp.block g (by omega) (by omega)).trans hg, r⟩
  · obtain ⟨u, h1, h2⟩ := h.each j hj
    refine ⟨u, h1, h2.1, ?_⟩
    rcases h2.2 with h3 | ⟨g, cap, cur, rfl, hl, hg, r⟩
    · exact .inl h3
    · have hlt := h.ltu j _ h1 g rfl
      have htop := h.top
      exact .inr ⟨g, cap, cur, rfl, hl, (hp.block g (by omega) (by omega)).trans hg, r⟩
end Go.Proofs.Ytdgpodopkfnpeab
