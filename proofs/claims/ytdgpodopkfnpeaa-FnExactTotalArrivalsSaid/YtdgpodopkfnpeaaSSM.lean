/- The laws' helpers for slices of slices of numbers. -/
import Derived.Test.YtdgpodopkfnpeaaSS
import Derived.Test.YtdgpodopkfnpeaaMem
import Derived.Test.YtdgpodopkfnpeaaHelp
import Derived.Deep.RegionHeld3
namespace Go.Proofs.Ytdgpodopkfnpeaa
open Go.RowKit
set_option linter.unusedVariables false

/-- no two of these lie in one block. -/
def ApartL (us : List Value) : Prop := ∀ (i j : Nat) (u u' : Value), i ≠ j → us[i]? = some u → us[j]? = some u' → ∀ g, u.ownBlock = some g → u'.ownBlock ≠ some g
theorem ApartL.nil : ApartL [] := fun i j u u' _ h => by simp at h
theorem ApartL.snoc {us : List Value} {u : Value} {b : Nat} (h : ApartL us) (h1 : ∀ x ∈ us, ∀ g, x.ownBlock = some g → g < b) (h2 : ∀ g, u.ownBlock = some g → b ≤ g) : ApartL (us ++ [u]) := by
  intro i j x y hij hx hy g hg e
  rw [List.getElem?_append] at hx hy
  split at hx
  · rename_i hi
    split at hy
    · exact h i j x y hij hx hy g hg e
    · rename_i hj
      have : j - us.length = 0 := by
        have := (List.getElem?_eq_some_iff.1 hy).1
        simp at this; omega
      rw [this] at hy
      simp at hy
      subst hy
      have := h1 x (List.mem_of_getElem? hx) g hg
      have := h2 g e
      omega
  · rename_i hi
    have hi0 : i - us.length = 0 := by
      have := (List.getElem?_eq_some_iff.1 hx).1
      simp at this; omega
    rw [hi0] at hx
    simp at hx
    subst hx
    split at hy
    · have := h1 y (List.mem_of_getElem? hy) g e
      have := h2 g hg
      omega
    · rename_i hj
      have : j - us.length = 0 := by
        have := (List.getElem?_eq_some_iff.1 hy).1
        simp at this; omega
      omega
/-- a row of rows of the call's own; each row in its own block. -/
structure OwnD (w : World) (lo : Nat) (v : Value) (us : List Value) (zss : List (List Int)) : Prop where
  row : w.ownsRow lo 134 1 v zss.length us
  each : ∀ j, j < zss.length → ∃ u, us[j]? = some u ∧ Own .i64 3 w lo u (zss.getD j [])
  apart : ApartL us
theorem OwnD.len {w : World} {lo : Nat} {v : Value} {us : List Value} {zss : List (List Int)} (h : OwnD w lo v us zss) : us.length = zss.length := by have := h.row.1; omega
theorem OwnD.ss {w : World} {lo : Nat} {v : Value} {us : List Value} {zss : List (List Int)} (h : OwnD w lo v us zss) : OwnSS w lo v zss := ⟨us, h.row, h.each⟩
theorem OwnD.below {w w' : World} {lo : Nat} {v : Value} {us : List Value} {zss : List (List Int)} (h : OwnD w lo v us zss) (hb : Below w.heap.size w w') : OwnD w' lo v us zss :=
  ⟨ownr_below h.row hb, fun j hj => by obtain ⟨u, h1, h2⟩ := h.each j hj; exact ⟨u, h1, h2.below hb⟩, h.apart⟩
theorem OwnD.mono {w : World} {lo lo' : Nat} {v : Value} {us : List Value} {zss : List (List Int)} (h : OwnD w lo v us zss) (hl : lo' ≤ lo) : OwnD w lo' v us zss :=
  ⟨ownr_mono h.row hl, fun j hj => by obtain ⟨u, h1, h2⟩ := h.each j hj; exact ⟨u, h1, h2.mono hl⟩, h.apart⟩
theorem OwnSS.rows {w : World} {lo : Nat} {A : Option Addr} {n c : Nat} {zss : List (List Int)} (h : OwnSS w lo (.slice A n c) zss) : SSAt w w.heap.size A n zss := by
  obtain ⟨vs, hr, hi⟩ := h
  have hn := ownr_len hr
  subst hn
  refine ⟨rfl, fun h0 => ?_⟩
  have hcl := (ownr_cells hr).2 (by omega)
  obtain ⟨ad, e, hb, hc⟩ := hcl
  refine ⟨ad, e, hb, fun j hj => ?_⟩
  obtain ⟨u, h1, h2⟩ := hi j hj
  obtain ⟨A', c', rfl⟩ := h2.sliced
  refine ⟨A', _, c', hc j _ h1, ?_, (ownr_cap h2).1, ownr_nilcap h2⟩
  exact h2.ints
theorem OwnSS.cap {w : World} {lo : Nat} {A : Option Addr} {n c : Nat} {zss : List (List Int)} (h : OwnSS w lo (.slice A n c) zss) : (A = none → n = 0 ∧ c = 0) ∧ n ≤ c ∧ c ≤ maxLen := by
  obtain ⟨vs, hr, hi⟩ := h
  exact ⟨ownr_nilcap hr, ownr_cap hr⟩
theorem SSAt.keep {w w' : World} {B : Nat} {A : Option Addr} {n : Nat} {zss : List (List Int)} (h : SSAt w B A n zss) (hk : ∀ p : Addr, p.block < B → w'.cell? p = w.cell? p) : SSAt w' B A n zss := by
  refine ⟨h.1, fun h0 => ?_⟩
  obtain ⟨ad, e, hb, hc⟩ := h.2 h0
  refine ⟨ad, e, hb, fun j hj => ?_⟩
  obtain ⟨A', m, c, h1, h2, h3, h4⟩ := hc j hj
  exact ⟨A', m, c, (hk _ (by rw [add_block]; exact hb)).trans h1, h2.keep hk, h3, h4⟩
theorem SSAt.up {w : World} {B B' : Nat} {A : Option Addr} {n : Nat} {zss : List (List Int)} (h : SSAt w B A n zss) (hB : B ≤ B') : SSAt w B' A n zss := by
  refine ⟨h.1, fun h0 => ?_⟩
  obtain ⟨ad, e, hb, hc⟩ := h.2 h0
  refine ⟨ad, e, by omega, fun j hj => ?_⟩
  obtain ⟨A', m, c, h1, h2, h3, h4⟩ := hc j hj
  exact ⟨A', m, c, h1, h2.up hB, h3, h4⟩
theorem made_nils (n : Nat) : (madeCells (Value.slice none 0 0).cells (n * 1)).toList = List.replicate n (Value.slice none 0 0) := by
  simp only [madeCells, Value.cells]
  apply List.ext_getElem?
  intro i
  simp only [Array.toList_map, List.getElem?_map, Nat.mul_one]
  by_cases h : i < n
  · simp [h, Nat.mod_one]
  · simp [h]
theorem set_next (us : List Value) (n : Nat) (u : Value) (h : us.length < n) : (us ++ List.replicate (n - us.length) (Value.slice none 0 0)).set us.length u = (us ++ [u]) ++ List.replicate (n - (us ++ [u]).length) (Value.slice none 0 0) := by
  rw [List.set_append_right _ _ (Nat.le_refl _), Nat.sub_self, List.length_append, List.length_singleton]
  have e : n - us.length = (n - (us.length + 1)) + 1 := by omega
  rw [e, List.replicate_succ, List.set_cons_zero]
  simp
theorem apart_row {w : World} {lo lo2 : Nat} {u v : Value} {zs : List Int} {n : Nat} {vs : List Value} (h : Own .i64 3 w lo u zs) (h2 : w.ownsRow lo2 134 1 v n vs) : ∀ g, u.ownBlock = some g → v.ownBlock ≠ some g := own_apart h h2
set_option maxHeartbeats 1000000 in
theorem to_ss (A : Option Addr) (n c B : Nat) (zss : List (List Int)) (w : World) (h : SSAt w B A n zss) (hB : B ≤ w.heap.size) (hn : n ≤ 1048576) (hm : ∀ j, j < n → (zss.getD j []).length ≤ 1048576) :
    Calls Try.prog 51 #[.slice A n c] w fun e w' => e = .returned (.slice (some ⟨w.heap.size, 0, none⟩) n n) ∧ (∃ us, OwnD w' w.heap.size (.slice (some ⟨w.heap.size, 0, none⟩) n n) us zss) ∧ Below w.heap.size w w' := by
  have hl := h.1
  go_enter Try.func51, Try.ntmps51
  go_wp2_with ((with_reducible show wpList _ _ _ _ _ _); refine wpList_mkR rfl _ _ _ rfl 134 _ 1 _ Try.underlying68 info_ints (by decide) (n : Int) (n : Int) n rfl rfl rfl rfl (by omega) ?_; intro w1 hown hgrow)
  rw [made_nils] at hown
  go_loopw [4] (fun i wr => ∃ (k : Nat) (us : List Value), k ≤ n ∧ us.length = k ∧ i = .int .i64 k ∧ wr.ownsRow w.heap.size 134 1 (.slice (some ⟨w.heap.size, 0, none⟩) n n) n (us ++ List.replicate (n - us.length) (.slice none 0 0)) ∧
      (∀ j, j < k → ∃ u, us[j]? = some u ∧ Own .i64 3 wr w.heap.size u (zss.getD j [])) ∧ ApartL us ∧ Below w.heap.size w wr) (fun i _ => n - (intOf i).toNat)
  case atStart => exact ⟨0, [], Nat.zero_le _, rfl, rfl, by simpa using hown, fun j hj => absurd hj (by omega), ApartL.nil, below_grown hgrow⟩
  case round =>
    clear hown hgrow
    obtain ⟨k, us, hk, hul, rfl, hrow, heach, hap, hbl⟩ := hrel
    have hsz := hbl.size
    by_cases hlt : k < n
    · obtain ⟨ad, A', m, c', rfl, hab, hc, hi, hmc, hnil⟩ := h.at hlt
      have hcw : wr.cell? (ad.add k) = some (.slice A' m c') := (hbl.cell (by omega)).trans hc
      have hml := hi.1
      have hmk := hm k hlt
      have hiw := hi.keep (w' := wr) (fun p hp => hbl.cell (by omega))
      clear hc hi
      obtain ⟨zs, hzs⟩ : ∃ zs, zss.getD k [] = zs := ⟨_, rfl⟩
      rw [hzs] at hml hmk hiw
      have HZS := Lib.hid hzs
      clear hzs
      go_wp2_with fail
      refine (to_i64 A' m c' B zs wr hiw (by omega) (by omega)).mono ?_
      rintro e w2 ⟨rfl, ho, hb2⟩
      have hrow2 := ownr_below hrow hb2
      obtain ⟨x0, hx0⟩ := ownr_some hrow2 (j := k) (by omega)
      have hf0 := World.ownsRow.frozenAt hrow2 k
      have hst := (World.ownsRow.stored hrow2 k (.slice (some ⟨wr.heap.size, 0, none⟩) m m)).1
      have hb3 := hbl.trans (hb2.mono hsz)
      have hgs : w2.grownBy (w2.setCell ⟨w.heap.size, k, none⟩ (.slice (some ⟨wr.heap.size, 0, none⟩) m m)) (some w.heap.size) := only_setCell (World.grownBy.refl _ _) _ _
      have hkept : ∀ {x : Value} {xs : List Int} {l : Nat}, Own .i64 3 w2 l x xs → Own .i64 3 (w2.setCell ⟨w.heap.size, k, none⟩ (.slice (some ⟨wr.heap.size, 0, none⟩) m m)) l x xs := fun hx => hx.grown hgs (fun g hg e => own_apart hx hrow2 g hg e)
      have hsn : us.length < n := by omega
      rw [← hul] at hst
      rw [set_next us n _ hsn, hul] at hst
      have HR := Lib.hid hst
      have HE : Hid (∀ j, j < k + 1 → ∃ u, (us ++ [.slice (some ⟨wr.heap.size, 0, none⟩) m m])[j]? = some u ∧ Own .i64 3 (w2.setCell ⟨w.heap.size, k, none⟩ (.slice (some ⟨wr.heap.size, 0, none⟩) m m)) w.heap.size u (zss.getD j [])) := Lib.hid (by
        intro j hj
        by_cases hjk : j < k
        · obtain ⟨u, h1, h2⟩ := heach j hjk
          exact ⟨u, by rw [List.getElem?_append_left (by omega)]; exact h1, hkept (h2.below hb2)⟩
        · obtain rfl : j = us.length := by omega
          refine ⟨_, (List.getElem?_append_right (Nat.le_refl _)).trans (by rw [Nat.sub_self]; rfl), ?_⟩
          rw [show us.length = k from hul, HZS.out]
          exact hkept (ho.mono hsz))
      have HA : Hid (ApartL (us ++ [.slice (some ⟨wr.heap.size, 0, none⟩) m m])) := Lib.hid (hap.snoc (b := wr.heap.size) (fun x hx g hg => by
        obtain ⟨j, hj, rfl⟩ := List.getElem_of_mem hx
        obtain ⟨u, h1, h2⟩ := heach j (by omega)
        rw [List.getElem?_eq_getElem hj] at h1
        injection h1 with h1
        subst h1
        exact (h2.block g hg).2) (fun g hg => by
        have : wr.heap.size = g := Option.some.inj hg
        omega))
      have HB := Lib.hid hb3
      clear hrow heach hap hbl hb2 hb3 hgs hkept hst hrow2 ho hiw
      go_wp2
      go_roundw
      case rel => exact ⟨k + 1, us ++ [.slice (some ⟨wr.heap.size, 0, none⟩) m m], by omega, by rw [List.length_append, hul]; rfl, by go_num, HR.out, HE.out, HA.out, HB.out.setCell (Nat.le_refl _) _⟩
      case measure => simp [intOf]; omega
    · obtain rfl : k = n := by omega
      rw [hul, Nat.sub_self, List.replicate_zero, List.append_nil] at hrow
      have HO : Hid (OwnD wr w.heap.size (.slice (some ⟨w.heap.size, 0, none⟩) k k) us zss) := Lib.hid ⟨by rw [hl]; exact hrow, fun j hj => heach j (by omega), hap⟩
      clear hrow heach hap
      go_wp2
      go_ret
      exact ⟨rfl, ⟨us, HO.out⟩, hbl⟩
set_option maxHeartbeats 1000000 in
theorem eqs_ss (A : Option Addr) (n c : Nat) (zss : List (List Int)) (A2 : Option Addr) (n2 c2 : Nat) (w : World) (h : SSAt w w.heap.size A n zss) (h2 : SSAt w w.heap.size A2 n2 zss) (hn : n ≤ 4398046511104) (hn2 : n2 ≤ 4398046511104) (hm : ∀ j, j < n → (zss.getD j []).length ≤ 4398046511104) :
    Calls Try.prog 53 #[.slice A n c, .slice A2 n2 c2] w fun e w' => e = .returned (.bool true) ∧ Below w.heap.size w w' := by
  have hl := h.1
  have hl2 := h2.1
  obtain rfl : n = n2 := by omega
  go_enter Try.func53, Try.ntmps53
  go_wp2
  go_loopw [5] (fun i wr => ∃ k : Nat, k ≤ n ∧ i = .int .i64 k ∧ Below w.heap.size w wr) (fun i _ => n - (intOf i).toNat)
  case atStart => exact ⟨0, Nat.zero_le _, rfl, Below.refl _ _⟩
  case round =>
    obtain ⟨k, hk, rfl, hbl⟩ := hrel
    have hsz := hbl.size
    by_cases hlt : k < n
    · obtain ⟨ad, A', m, c', rfl, hab, hc, hi, hmc, hnil⟩ := h.at hlt
      obtain ⟨ad2, A2', m2, c2', rfl, hab2, hc2, hi2, hmc2, hnil2⟩ := h2.at hlt
      have hcw : ∀ x, Below wr.heap.size wr x → x.cell? (ad.add k) = some (.slice A' m c') := fun x hx => (hx.cell (by omega)).trans ((hbl.cell (by omega)).trans hc)
      have hcw2 : ∀ x, Below wr.heap.size wr x → x.cell? (ad2.add k) = some (.slice A2' m2 c2') := fun x hx => (hx.cell (by omega)).trans ((hbl.cell (by omega)).trans hc2)
      have hmk := hm k hlt
      have hml := hi.1
      have hml2 := hi2.1
      have hiw := hi.keep (w' := wr) (fun p hp => hbl.cell (by omega))
      have hiw2 := hi2.keep (w' := wr) (fun p hp => hbl.cell (by omega))
      clear hc hc2 hi hi2
      generalize zss.getD k [] = zs at *
      have hq := fun x (hx : Below wr.heap.size wr x) => eqs_i64 A' m c' zs A2' m2 c2' x ((hiw.keep (w' := x) fun p hp => hx.cell (by omega)).up (by have := hx.size; omega)) ((hiw2.keep (w' := x) fun p hp => hx.cell (by omega)).up (by have := hx.size; omega)) (by omega) (by omega)
      have x1 : (0 : Int) ≤ (k : Int) := by omega
      have x2 : (k : Int) < (n : Int) := by omega
      have hdr : Below wr.heap.size wr wr.drew := ⟨rfl, rfl, rfl, Nat.le_refl _, fun _ _ => rfl⟩
      have y0 := hcw _ hdr
      have z0 := hcw2 _ hdr
      have HQ := Lib.hid hq
      have HC := Lib.hid hcw
      have HC2 := Lib.hid hcw2
      clear hcw hcw2 hq hiw hiw2
      go_wp2
      go_region_held3 (fun W' => W'.cell? (ad.add k) = some (.slice A' m c') ∧ W'.cell? (ad2.add k) = some (.slice A2' m2 c2')) (first | exact ⟨y0, z0⟩ | exact ⟨y1, z1⟩ | fail "keep")
        (first
          | (go_at_call 98; refine (HQ.out _ hdr).mono ?_; rintro e w3 ⟨rfl, hb3⟩; have hb4 := hdr.trans hb3; have y1 := HC.out _ hb4; have z1 := HC2.out _ hb4))
      have HB := Lib.hid (hbl.trans (hb4.mono hsz))
      clear hb3 hb4 y0 z0 y1 z1 hbl HQ HC HC2 hdr
      go_wp2
      go_roundw
      case rel => exact ⟨k + 1, by omega, by go_num, HB.out⟩
      case measure => simp [intOf]; omega
    · obtain rfl : k = n := by omega
      go_wp2
      go_ret
      exact ⟨rfl, hbl⟩
theorem sz_ints (A : Option Addr) (n c : Nat) (left : Int) (w : World) (hn : n ≤ 9223372036854775807) (hl : 0 ≤ left ∧ left ≤ 1048576) :
    Calls Try.prog 95 #[.slice A n c, .int .i64 left] w fun e w' => e = .returned (.int .i64 (if (n : Int) ≤ left then left - (n : Int) else -1)) ∧ w = w' := by
  obtain ⟨l1, l2⟩ := hl
  by_cases h : (n : Int) ≤ left
  · rw [if_pos h]
    go_enter Try.func95, Try.ntmps95
    go_wp2
    go_ret
    exact ⟨rfl, rfl⟩
  · rw [if_neg h]
    go_enter Try.func95, Try.ntmps95
    go_wp2
    go_ret
    exact ⟨rfl, rfl⟩
/-- what szIntSS says. -/
def szSaid (left : Int) (n : Nat) (zss : List (List Int)) (r : Int) : Prop := r < 0 ∨ (0 ≤ r ∧ r ≤ left ∧ (n : Int) ≤ left ∧ ∀ j, j < n → ((zss.getD j []).length : Int) ≤ left)
set_option maxHeartbeats 1000000 in
theorem sz_ss (A : Option Addr) (n c B : Nat) (zss : List (List Int)) (left : Int) (w : World) (h : SSAt w B A n zss) (hn : n ≤ 9223372036854775807) (hm : ∀ j, j < n → (zss.getD j []).length ≤ 9223372036854775807) (hl : 0 ≤ left ∧ left ≤ 1048576) :
    Calls Try.prog 49 #[.slice A n c, .int .i64 left] w fun e w' => (∃ r : Int, e = .returned (.int .i64 r) ∧ szSaid left n zss r) ∧ w = w' := by
  have hl0 := h.1
  obtain ⟨l1, l2⟩ := hl
  by_cases hlt0 : (n : Int) ≤ left
  · go_enter Try.func49, Try.ntmps49
    go_wp2
    go_loop [1, 5] (fun r i => ∃ (k : Nat) (q : Int), k ≤ n ∧ i = .int .i64 k ∧ r = .int .i64 q ∧ 0 ≤ q ∧ q ≤ left ∧ ∀ j, j < k → ((zss.getD j []).length : Int) ≤ left) (fun _ i => n - (intOf i).toNat)
    case atStart => exact ⟨0, left - n, Nat.zero_le _, rfl, rfl, by omega, by omega, fun j hj => absurd hj (by omega)⟩
    case round =>
      obtain ⟨k, q, hk, rfl, rfl, hq0, hq1, hall⟩ := hrel
      have HALL := Lib.hid hall
      clear hall
      by_cases hlt : k < n
      · obtain ⟨ad, A', m, c', rfl, hab, hc, hi, hmc, hnil⟩ := h.at hlt
        have hml := hi.1
        have hmk := hm k hlt
        go_wp2_with fail
        refine (sz_ints A' m c' q _ (by omega) ⟨hq0, by omega⟩).mono ?_
        rintro e w' ⟨rfl, rfl⟩
        by_cases hle : (m : Int) ≤ q
        · rw [if_pos hle]
          have HK : Hid (((zss.getD k []).length : Int) ≤ left) := Lib.hid (by omega)
          clear hi hml hmk
          go_wp2
          go_round
          case rel => exact ⟨k + 1, q - m, by omega, by go_num, rfl, by omega, by omega, fun j hj => by
            by_cases e : j < k
            · exact HALL.out j e
            · obtain rfl : j = k := by omega
              exact HK.out⟩
          case measure => simp [intOf]; omega
        · rw [if_neg hle]
          go_wp2
          go_ret
          exact ⟨⟨-1, rfl, .inl (by decide)⟩, rfl⟩
      · obtain rfl : k = n := by omega
        go_wp2
        go_ret
        exact ⟨⟨q, rfl, .inr ⟨hq0, hq1, hlt0, HALL.out⟩⟩, rfl⟩
  · go_enter Try.func49, Try.ntmps49
    go_wp2
    go_ret
    exact ⟨⟨-1, rfl, .inl (by decide)⟩, rfl⟩
/-- a slice of slices that a call is given. -/
structure SlSS (w : World) (A : Option Addr) (n c : Nat) (zss : List (List Int)) : Prop where
  ss : SSAt w w.heap.size A n zss
  bare : A = none → n = 0 ∧ c = 0
  cap : n ≤ c ∧ c ≤ maxLen
/-- few and short. -/
def SmallSS (zss : List (List Int)) : Prop := zss.length ≤ 1048576 ∧ ∀ j, j < zss.length → (zss.getD j []).length ≤ 1048576
theorem SmallSS.at {zss : List (List Int)} (h : SmallSS zss) (n M : Nat) (hn : n = zss.length) (hM : 1048576 ≤ M) : ∀ j, j < n → (zss.getD j []).length ≤ M := fun j hj => Nat.le_trans (h.2 j (by omega)) hM
/-- rows of the call's own, between two block numbers. -/
structure OwD (w : World) (lo hi : Nat) (v : Value) (us : List Value) (zss : List (List Int)) : Prop where
  own : OwnD w lo v us zss
  lt : ∀ g, v.ownBlock = some g → g < hi
  ltu : ∀ u ∈ us, ∀ g, u.ownBlock = some g → lo ≤ g ∧ g < hi
  top : hi ≤ w.heap.size
theorem OwnD.inner {w : World} {lo : Nat} {v : Value} {us : List Value} {zss : List (List Int)} (h : OwnD w lo v us zss) {u : Value} (hu : u ∈ us) : ∃ zs, Own .i64 3 w lo u zs := by
  obtain ⟨j, hj, rfl⟩ := List.getElem_of_mem hu
  have hl := h.len
  obtain ⟨x, h1, h2⟩ := h.each j (by omega)
  rw [List.getElem?_eq_getElem hj] at h1
  injection h1 with h1
  subst h1
  exact ⟨_, h2⟩
theorem OwD.new {w : World} {lo : Nat} {v : Value} {us : List Value} {zss : List (List Int)} (h : OwnD w lo v us zss) : OwD w lo w.heap.size v us zss :=
  ⟨h, fun g e => (ownr_block h.row g e).2, fun u hu g e => by obtain ⟨zs, ho⟩ := h.inner hu; exact ho.block g e, Nat.le_refl _⟩
theorem OwD.below {w w' : World} {lo hi : Nat} {v : Value} {us : List Value} {zss : List (List Int)} (h : OwD w lo hi v us zss) (hb : Below w.heap.size w w') : OwD w' lo hi v us zss := ⟨h.own.below hb, h.lt, h.ltu, Nat.le_trans h.top hb.size⟩
theorem OwD.ints {w : World} {lo hi : Nat} {A : Option Addr} {n c : Nat} {us : List Value} {zss : List (List Int)} (h : OwD w lo hi (.slice A n c) us zss) : SSAt w w.heap.size A n zss := h.own.ss.rows
theorem OwD.sl {w : World} {lo hi : Nat} {A : Option Addr} {n c : Nat} {us : List Value} {zss : List (List Int)} (h : OwD w lo hi (.slice A n c) us zss) : SlSS w A n c zss := ⟨h.ints, h.own.ss.cap.1, h.own.ss.cap.2⟩
theorem OwD.part {w w' : World} {lo hi l h' : Nat} {v : Value} {us : List Value} {zss : List (List Int)} (h : OwD w lo hi v us zss) (hp : Part l h' w w') (hd : hi ≤ l ∨ h' ≤ lo) : OwD w' lo hi v us zss := by
  refine ⟨⟨?_, fun j hj => ?_, h.own.apart⟩, h.lt, h.ltu, Nat.le_trans h.top hp.size⟩
  · refine ⟨h.own.row.1, ?_⟩
    rcases h.own.row.2 with h2 | ⟨g, cap, cur, rfl, hl, hg, r⟩
    · exact .inl h2
    · have hlt := h.lt g rfl
      have htop := h.top
      exact .inr ⟨g, cap, cur, rfl, hl, (hp.block g (by omega) (by omega)).trans hg, r⟩
  · obtain ⟨u, h1, h2⟩ := h.own.each j hj
    refine ⟨u, h1, h2.1, ?_⟩
    have hu := List.mem_of_getElem? h1
    rcases h2.2 with h3 | ⟨g, cap, cur, rfl, hl, hg, r⟩
    · exact .inl h3
    · have hlt := h.ltu _ hu g rfl
      have htop := h.top
      exact .inr ⟨g, cap, cur, rfl, hl, (hp.block g (by omega) (by omega)).trans hg, r⟩
/-- how many numbers the first k rows hold. -/
def tot (zss : List (List Int)) (k : Nat) : Nat := ((zss.take k).map List.length).sum
theorem tot_zero (zss : List (List Int)) : tot zss 0 = 0 := by simp [tot]
theorem tot_succ {zss : List (List Int)} {k : Nat} (h : k < zss.length) : tot zss (k + 1) = tot zss k + (zss.getD k []).length := by
  unfold tot
  rw [List.take_add_one, List.getElem?_eq_getElem h, List.map_append, List.sum_append, List.getD_eq_getElem?_getD, List.getElem?_eq_getElem h]
  simp
theorem tot_le {zss : List (List Int)} (h : SmallSS zss) : ∀ k, k ≤ zss.length → tot zss k ≤ k * 1048576
  | 0, _ => by rw [tot_zero]; exact Nat.zero_le _
  | k + 1, hk => by
    have ih := tot_le h k (by omega)
    have := h.2 k (by omega)
    rw [tot_succ (by omega)]
    omega
theorem tot_top {zss : List (List Int)} (h : SmallSS zss) {k : Nat} (hk : k ≤ zss.length) : tot zss k ≤ 1099511627776 := by
  have h1 := tot_le h k hk
  have h2 := h.1
  have : k * 1048576 ≤ 1048576 * 1048576 := Nat.mul_le_mul_right _ (by omega)
  omega
/-- the first k rows marked. -/
def mixS (s : Nat) (zss : List (List Int)) (k : Nat) : List (List Int) := (List.range zss.length).map fun j => if j < k then marks .i64 ((s + tot zss j : Nat) : Int) (zss.getD j []).length else zss.getD j []
theorem mixS_len (s : Nat) (zss : List (List Int)) (k : Nat) : (mixS s zss k).length = zss.length := by simp [mixS]
theorem mixS_at (s : Nat) (zss : List (List Int)) (k : Nat) {j : Nat} (h : j < zss.length) : (mixS s zss k).getD j [] = if j < k then marks .i64 ((s + tot zss j : Nat) : Int) (zss.getD j []).length else zss.getD j [] := by
  simp [mixS, List.getD_eq_getElem?_getD, h]
theorem mixS_row (s : Nat) (zss : List (List Int)) (k : Nat) {j : Nat} (h : j < zss.length) : ((mixS s zss k).getD j []).length = (zss.getD j []).length := by
  rw [mixS_at s zss k h]
  split
  · rw [marks_length]
  · rfl
theorem mixS_zero (s : Nat) (zss : List (List Int)) : mixS s zss 0 = zss := by
  apply List.ext_getElem?
  intro i
  by_cases h : i < zss.length
  · simp [mixS, h]
  · rw [List.getElem?_eq_none (by rw [mixS_len]; omega), List.getElem?_eq_none (by omega)]
/-- the same, where nothing is said of two rows' blocks. -/
structure OwE (w : World) (lo hi : Nat) (v : Value) (us : List Value) (zss : List (List Int)) : Prop where
  row : w.ownsRow lo 134 1 v zss.length us
  each : ∀ j, j < zss.length → ∃ u, us[j]? = some u ∧ Own .i64 3 w lo u (zss.getD j [])
  lt : ∀ g, v.ownBlock = some g → g < hi
  ltu : ∀ (j : Nat) (u : Value), us[j]? = some u → ∀ g, u.ownBlock = some g → lo ≤ g ∧ g < hi
  top : hi ≤ w.heap.size
theorem OwE.new {w : World} {lo : Nat} {v : Value} {us : List Value} {zss : List (List Int)} (hr : w.ownsRow lo 134 1 v zss.length us) (hi : ∀ j, j < zss.length → ∃ u, us[j]? = some u ∧ Own .i64 3 w lo u (zss.getD j [])) : OwE w lo w.heap.size v us zss :=
  ⟨hr, hi, fun g e => (ownr_block hr g e).2, fun j u hj g e => by
    have hl := hr.1
    obtain ⟨u', h1, h2⟩ := hi j (by have := (List.getElem?_eq_some_iff.1 hj).1; omega)
    rw [hj] at h1
    injection h1 with h1
    subst h1
    exact h2.block g e, Nat.le_refl _⟩
theorem OwE.below {w w' : World} {lo hi : Nat} {v : Value} {us : List Value} {zss : List (List Int)} (h : OwE w lo hi v us zss) (hb : Below w.heap.size w w') : OwE w' lo hi v us zss :=
  ⟨ownr_below h.row hb, fun j hj => by obtain ⟨u, h1, h2⟩ := h.each j hj; exact ⟨u, h1, h2.below hb⟩, h.lt, h.ltu, Nat.le_trans h.top hb.size⟩
theorem OwE.ints {w : World} {lo hi : Nat} {A : Option Addr} {n c : Nat} {us : List Value} {zss : List (List Int)} (h : OwE w lo hi (.slice A n c) us zss) : SSAt w w.heap.size A n zss := OwnSS.rows ⟨us, h.row, h.each⟩
theorem OwE.part {w w' : World} {lo hi l h' : Nat} {v : Value} {us : List Value} {zss : List (List Int)} (h : OwE w lo hi v us zss) (hp : Part l h' w w') (hd : hi ≤ l ∨ h' ≤ lo) : OwE w' lo hi v us zss := by
  refine ⟨?_, fun j hj => ?_, h.lt, h.ltu, Nat.le_trans h.top hp.size⟩
  · refine ⟨h.row.1, ?_⟩
    rcases h.row.2 with h2 | ⟨g, cap, cur, rfl, hl, hg, r⟩
    · exact .inl h2
    · have hlt := h.lt g rfl
      have htop := h.top
      exact .inr ⟨g, cap, cur, rfl, hl, (hp.block g (by omega) (by omega)).trans hg, r⟩
  · obtain ⟨u, h1, h2⟩ := h.each j hj
    refine ⟨u, h1, h2.1, ?_⟩
    rcases h2.2 with h3 | ⟨g, cap, cur, rfl, hl, hg, r⟩
    · exact .inl h3
    · have hlt := h.ltu j _ h1 g rfl
      have htop := h.top
      exact .inr ⟨g, cap, cur, rfl, hl, (hp.block g (by omega) (by omega)).trans hg, r⟩
end Go.Proofs.Ytdgpodopkfnpeaa
