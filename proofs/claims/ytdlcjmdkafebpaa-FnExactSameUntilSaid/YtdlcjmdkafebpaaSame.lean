/- Chapter 27: SameUntil: program (a map of what stays open) and model. -/
import Derived.Test.YtdlcjmdkafebpaaInts
import Derived.Test.YtdlcjmdkafebpaaFlat
import Derived.Test.YtdlcjmdkafebpaaEnt
import Derived.Test.YtdlcjmdkafebpaaGrow
import Derived.WalkKit
import Derived.Maps.Own
import Derived.Maps.OwnOps
import Derived.Maps.OwnSet
import Derived.Maps.Views
namespace Go.Proofs.Ytdlcjmdkafebpaa
open Go.RowKit Go.Maps
set_option linter.unusedVariables false

/-- how long two lists are the same from the first element on. -/
def preI : List Int → List Int → Nat
  | a :: us, b :: vs => if a = b then preI us vs + 1 else 0
  | _, _ => 0
theorem preI_eq : ∀ {us vs : List Int} {k : Nat}, k ≤ us.length → k ≤ vs.length → (∀ i, i < k → us.getD i 0 = vs.getD i 0) → (k = us.length ∨ k = vs.length ∨ us.getD k 0 ≠ vs.getD k 0) → preI us vs = k
  | [], l, k, h1, _, _, _ => by
    have : k = 0 := by simpa using h1
    subst this
    cases l <;> rfl
  | a :: us, [], k, _, h2, _, _ => by
    have : k = 0 := by simpa using h2
    subst this
    rfl
  | a :: us, b :: vs, 0, _, _, _, h => by
    rcases h with h | h | h
    · simp at h
    · simp at h
    · have : ¬ a = b := by simpa using h
      simp [preI, this]
  | a :: us, b :: vs, k + 1, h1, h2, h3, h => by
    have e : a = b := by simpa using h3 0 (by omega)
    have ih := preI_eq (us := us) (vs := vs) (k := k) (by simpa using h1) (by simpa using h2) (fun i hi => by simpa using h3 (i + 1) (by omega)) (by
      rcases h with h | h | h
      · exact .inl (by simpa using h)
      · exact .inr (.inl (by simpa using h))
      · exact .inr (.inr (by simpa using h)))
    simp [preI, e, ih]
/-- what SameUntil answers. -/
def sameU (xs ys : List Ent) : Int := ((preI (xs.map (·.mac)) (ys.map (·.mac)) : Nat) : Int)
theorem mac_at {xs : List Ent} {k : Nat} (h : k < xs.length) : (xs.map (·.mac)).getD k 0 = (entA xs k).mac := by rw [List.getD_eq_getElem?_getD, List.getElem?_map, entA_get h]; rfl
theorem sameU_eq {xs ys : List Ent} {k : Nat} (h1 : k ≤ xs.length) (h2 : k ≤ ys.length) (h3 : ∀ i, i < k → (entA xs i).mac = (entA ys i).mac) (h : k = xs.length ∨ k = ys.length ∨ (k < xs.length ∧ k < ys.length ∧ (entA xs k).mac ≠ (entA ys k).mac)) : sameU xs ys = (k : Int) := by
  unfold sameU
  rw [preI_eq (k := k) (by simpa using h1) (by simpa using h2) (fun i hi => by rw [mac_at (by omega), mac_at (by omega), h3 i hi]) (by
    rcases h with h | h | ⟨ha, hb, h⟩
    · exact .inl (by simpa using h)
    · exact .inr (.inl (by simpa using h))
    · exact .inr (.inr (by rw [mac_at ha, mac_at hb]; exact h)))]
theorem wf64S (z : Int) (h : -9223372036854775808 ≤ z ∧ z ≤ 9223372036854775807) : (Lit.int .i64 z).wf = true := by
  show (decide (IntKind.i64.min ≤ z) && decide (z ≤ IntKind.i64.max)) = true
  simp only [Bool.and_eq_true, decide_eq_true_eq]
  exact h
theorem lit_ne {i j : Nat} (h : i ≠ j) : Lit.int .i64 (i : Int) ≠ Lit.int .i64 (j : Int) := fun e => by injection e with _ e; omega
/-- a map has the seals of these, from lo to hi. -/
def OpenD (D : DataW Unit) (ys : List Ent) (lo hi : Nat) : Prop :=
  Tidy D ∧ (∀ j : Nat, Maps.has D (.int .i64 (j : Int)) = (decide (lo ≤ j) && decide (j < hi))) ∧ (∀ j : Nat, lo ≤ j → j < hi → D.atKey (.int .i64 (j : Int)) (.lit (.int .i64 0)) = .lit (.int .i64 (entA ys j).mac)) ∧ Maps.size D = hi - lo
theorem OpenD.empty (ys : List Ent) : OpenD (.map []) ys 0 0 := ⟨tidy_empty, fun j => by rw [has_eq]; simp, fun j _ h => absurd h (by omega), rfl⟩
theorem OpenD.put {D : DataW Unit} {ys : List Ent} {k : Nat} (h : OpenD D ys 0 k) (hk : WideAt.IsKeyLit (.int .i64 (k : Int))) : OpenD (D.put (.int .i64 (k : Int)) (.lit (.int .i64 (entA ys k).mac))) ys 0 (k + 1) := by
  obtain ⟨h1, h2, h3, h4⟩ := h
  refine ⟨h1.put hk _, fun j => ?_, fun j hl hj => ?_, ?_⟩
  · by_cases e : j = k
    · subst e
      rw [has_put_same h1.isMap hk]
      simp
    · rw [has_put_other (lit_ne e), h2 j]
      simp
      omega
  · by_cases e : j = k
    · subst e
      exact atKey_put_same h1.isMap hk _ _
    · rw [atKey_put_other (lit_ne e)]
      exact h3 j hl (by omega)
  · rw [size_put h1, h2 k, h4]
    simp
theorem OpenD.del {D : DataW Unit} {ys : List Ent} {k n : Nat} (h : OpenD D ys k n) (hk : k < n) : OpenD (D.del (.int .i64 (k : Int))) ys (k + 1) n := by
  obtain ⟨h1, h2, h3, h4⟩ := h
  refine ⟨h1.del _, fun j => ?_, fun j hl hj => ?_, ?_⟩
  · by_cases e : j = k
    · subst e
      rw [has_del_same]
      simp
      omega
    · rw [has_del_other (lit_ne e), h2 j]
      by_cases e2 : k + 1 ≤ j
      · rw [decide_eq_true (show k ≤ j by omega), decide_eq_true e2]
      · rw [decide_eq_false (show ¬ k ≤ j by omega), decide_eq_false e2]
  · rw [atKey_del_other (lit_ne (by omega))]
    exact h3 j (by omega) hj
  · have hs := size_del (k := .int .i64 (k : Int)) h1
    rw [h2 k, decide_eq_true (Nat.le_refl _), decide_eq_true hk, h4] at hs
    simp at hs
    omega
theorem int_law : Keyed Try.prog 3 := int_keyed Try.underlying3
theorem int_zero (w : World) : (zeroValue 3).run Try.prog w = .ok (.int .i64 0) w := by kernel_rfl
set_option maxHeartbeats 4000000 in
set_option maxRecDepth 100000 in
theorem impl_SameUntil (A : Option Addr) (n c B : Nat) (xs : List Ent) (A2 : Option Addr) (n2 c2 B2 : Nat) (ys : List Ent) (w : World) (h : EntsAt w B A n xs) (h2 : EntsAt w B2 A2 n2 ys) (hB : B ≤ w.heap.size) (hB2 : B2 ≤ w.heap.size) (hn : n ≤ 4294967296) (hn2 : n2 ≤ 4294967296) (hw : ∀ y ∈ ys, (Lit.int .i64 y.mac).wf = true) :
    Calls Try.prog 53 #[.slice A n c, .slice A2 n2 c2] w fun e w' => e = .returned (.int .i64 (sameU xs ys)) ∧ Below w.heap.size w w' := by
  have hmm := @run_makeMap Try.prog
  have HL := Lib.hid h.1
  have HL2 := Lib.hid h2.1
  go_enter Try.func53, Try.ntmps53
  go_wp2
  go_loopw [15] (fun i wr => ∃ k : Nat, k ≤ n2 ∧ i = .int .i64 k ∧ (∃ D : DataW Unit, wr.ownsMap Try.prog 3 (plainElem Try.prog 3) w.heap.size k D ∧ OpenD D ys 0 k) ∧ Below w.heap.size w wr) (fun i _ => n2 - (intOf i).toNat)
  case atStart => exact ⟨0, Nat.zero_le _, rfl, ⟨.map [], World.ownsMap_made _ _ _ _, OpenD.empty ys⟩, (Below.refl _ _).alloc (Nat.le_refl _) _⟩
  case round =>
    obtain ⟨k, hk, rfl, ⟨D, hown, hopn⟩, hbl⟩ := hrel
    have hsz := hbl.size
    clear hmm
    by_cases hlt : k < n2
    · obtain ⟨ad, A', m, c', rfl, hab, hq, hi, hmc, hnil⟩ := h2.at hlt
      obtain ⟨c0, c1, c3⟩ := hq.below hbl (by omega)
      have hkey : keyOf Try.prog 3 (.int .i64 (k : Int)) = some (.int .i64 (k : Int)) := keyOf_int_mk Try.underlying3 (wf64S _ (by omega))
      have hwm := hw _ (entA_mem (ps := ys) (k := k) (by have := HL2.out; omega))
      obtain ⟨wA, hwA⟩ : ∃ wA, wA = wr.alloc (.cells #[.int .i64 (entA ys k).second, .slice A' m c', .int .i64 (entA ys k).mac] 141) := ⟨_, rfl⟩
      obtain ⟨hk0, hszA, hBA⟩ := one_block hwA
      have acc := hbl.trans (hBA.mono hsz)
      have hownA := hown.kept (only_of_below hBA none) (by simp)
      have hput := hopn.put (int_law.key hkey)
      have i1 : (0 : Int) ≤ (k : Int) := by omega
      have i2 : (k : Int) < (n2 : Int) := by omega
      have HACC := Lib.hid acc
      have HPUT := Lib.hid hput
      have HOA := Lib.hid hownA
      clear hq hi hown hopn hbl hk0 hBA acc hput hownA
      generalize (entA ys k).mac = q at *
      go_wp2_with (at_mapUpdate; rw [← hwA]; refine wpList_mapUpdate_own _ rfl _ _ _ 143 rfl 3 3 int_law Try.underlying143 _ w.heap.size k D rfl HOA.out (by unfold maxLen; omega) _ _ _ rfl rfl hkey _ [] (plainElem_int Try.underlying3 hwm) ?_; intro w1 hown1 hgrow1)
      have HB1 := Lib.hid (HACC.out.grown hgrow1 HACC.out.size (fun j hj => by cases hj; exact Nat.le_refl _))
      have HO1 := Lib.hid hown1
      clear hown1 hgrow1
      go_roundw
      case rel => exact ⟨k + 1, by omega, by go_num, ⟨_, HO1.out, HPUT.out⟩, HB1.out⟩
      case measure => simp [intOf]; omega
    · obtain rfl : k = n2 := by omega
      go_wp2
      go_loopw [27] (fun i wr => ∃ j : Nat, j ≤ n ∧ j ≤ k ∧ i = .int .i64 j ∧ (∃ D : DataW Unit, wr.ownsMap Try.prog 3 (plainElem Try.prog 3) w.heap.size k D ∧ OpenD D ys j k) ∧ (∀ i, i < j → (entA xs i).mac = (entA ys i).mac) ∧ Below w.heap.size w wr) (fun i _ => n - (intOf i).toNat)
      case atStart => exact ⟨0, Nat.zero_le _, Nat.zero_le _, rfl, ⟨D, hown, hopn⟩, fun i hi => absurd hi (by omega), hbl⟩
      case round =>
        clear hown hopn hbl hsz
        obtain ⟨j, hj, hjk, rfl, ⟨D, hown, hopn⟩, hsame, hbl⟩ := hrel
        have hsz := hbl.size
        have hsize := hopn.2.2.2
        have hwr : IntKind.i64.wrap ((k : Int) - ((k - j : Nat) : Int)) = (j : Int) := by rw [IntKind.wrap_i64]; omega
        by_cases hlt2 : j < n
        · obtain ⟨ad, A', m, c', rfl, hab, hq, hi, hmc, hnil⟩ := h.at hlt2
          obtain ⟨c0, c1, c3⟩ := hq.below hbl (by omega)
          have hkey : keyOf Try.prog 3 (.int .i64 (j : Int)) = some (.int .i64 (j : Int)) := keyOf_int_mk Try.underlying3 (wf64S _ (by omega))
          obtain ⟨wA, hwA⟩ : ∃ wA, wA = wr.alloc (.cells #[.int .i64 (entA xs j).second, .slice A' m c', .int .i64 (entA xs j).mac] 141) := ⟨_, rfl⟩
          obtain ⟨hk0, hszA, hBA⟩ := one_block hwA
          have acc := hbl.trans (hBA.mono hsz)
          have hownA := hown.kept (only_of_below hBA none) (by simp)
          have d2 : wA.cell? ⟨wr.heap.size, 2, none⟩ = some (.int .i64 (entA xs j).mac) := by rw [cell_of_row wA _ 2 _ _ _ hk0]; rfl
          have hhas := hopn.2.1 j
          have i1 : (0 : Int) ≤ (j : Int) := by omega
          have i2 : (j : Int) < (n : Int) := by omega
          have HACC := Lib.hid acc
          have HSAME := Lib.hid hsame
          have HOPN := Lib.hid hopn
          have HOA := Lib.hid hownA
          have HSIZE := Lib.hid hsize
          have hgo : j < k → D.atKey (.int .i64 (j : Int)) (.lit (.int .i64 0)) = .lit (.int .i64 (entA ys j).mac) := fun e => hopn.2.2.1 j (Nat.le_refl _) e
          have HX : Hid (k ≤ j → sameU xs ys = (j : Int)) := Lib.hid (fun e => sameU_eq (by have := HL.out; omega) (by have := HL2.out; omega) HSAME.out (.inr (.inl (by have := HL2.out; omega))))
          have HY : Hid (j < k → (entA xs j).mac ≠ (entA ys j).mac → sameU xs ys = (j : Int)) := Lib.hid (fun e e2 => sameU_eq (by have := HL.out; omega) (by have := HL2.out; omega) HSAME.out (.inr (.inr ⟨by have := HL.out; omega, by have := HL2.out; omega, e2⟩)))
          have HZ : Hid ((entA xs j).mac = (entA ys j).mac → ∀ i, i < j + 1 → (entA xs i).mac = (entA ys i).mac) := Lib.hid (fun e i hi => by
            by_cases e2 : i = j
            · subst e2; exact e
            · exact HSAME.out i (by omega))
          clear hq hi hown hopn hbl hk0 hBA acc hownA hsame hsize
          generalize (entA xs j).mac = p at *
          generalize (entA ys j).mac = q at *
          by_cases hjk2 : j < k
          · rw [decide_eq_true (Nat.le_refl _), decide_eq_true hjk2] at hhas
            have hat0 := hgo hjk2
            clear hgo
            by_cases hpq : p = q
            · have e1 : ((q : Int) != p) = false := by simp [hpq]
              have HZ2 := Lib.hid (HZ.out hpq)
              have HDEL := Lib.hid (HOPN.out.del hjk2)
              clear hpq
              go_wp2_with (first
                | (at_lookup; rw [← hwA]; refine wpList_lookup_own_ok_int _ rfl _ _ 143 rfl 3 3 .i64 int_law Try.underlying143 Try.underlying3 (int_zero _) w.heap.size k D rfl HOA.out _ _ rfl hkey ?_; intro c hat hwc; obtain rfl : c = q := by { rw [hat0] at hat; injection hat with hat; injection hat with _ hat; exact hat.symm }; rw [hhas]; clear hat)
                | (at_delete; rw [← hwA]; refine wpList_delete_own _ rfl _ _ 143 3 rfl 3 int_law Try.underlying143 _ w.heap.size k D rfl HOA.out _ _ rfl hkey ?_; intro w1 hown1 hturn1))
              have HB1 := Lib.hid (HACC.out.grown hturn1.grown HACC.out.size (fun j hj => by cases hj; exact Nat.le_refl _))
              have HO1 := Lib.hid hown1
              clear hown1 hturn1
              go_roundw
              case rel => exact ⟨j + 1, by omega, by omega, by go_num, ⟨_, HO1.out, HDEL.out⟩, HZ2.out, HB1.out⟩
              case measure => simp [intOf]; omega
            · have e1 : ((q : Int) != p) = true := by simp; omega
              have HV := Lib.hid (HY.out hjk2 hpq)
              clear hpq
              go_wp2_with (first
                | (at_lookup; rw [← hwA]; refine wpList_lookup_own_ok_int _ rfl _ _ 143 rfl 3 3 .i64 int_law Try.underlying143 Try.underlying3 (int_zero _) w.heap.size k D rfl HOA.out _ _ rfl hkey ?_; intro c hat hwc; obtain rfl : c = q := by { rw [hat0] at hat; injection hat with hat; injection hat with _ hat; exact hat.symm }; rw [hhas]; clear hat)
                | (at_len; rw [← hwA]; refine wpList_len_own _ rfl _ 143 rfl 3 3 Try.underlying143 _ w.heap.size k D rfl HOA.out ?_; rw [HSIZE.out]))
              go_ret
              exact ⟨by rw [HV.out]; rfl, by rw [← hwA]; exact HACC.out⟩
          · rw [decide_eq_false hjk2, Bool.and_false] at hhas
            have HV := Lib.hid (HX.out (by omega))
            clear hgo
            go_wp2_with (first
              | (at_lookup; rw [← hwA]; refine wpList_lookup_own_ok_int _ rfl _ _ 143 rfl 3 3 .i64 int_law Try.underlying143 Try.underlying3 (int_zero _) w.heap.size k D rfl HOA.out _ _ rfl hkey ?_; intro c hat hwc; rw [hhas]; clear hat)
              | (at_len; rw [← hwA]; refine wpList_len_own _ rfl _ 143 rfl 3 3 Try.underlying143 _ w.heap.size k D rfl HOA.out ?_; rw [HSIZE.out]))
            go_ret
            exact ⟨by rw [HV.out]; rfl, by rw [← hwA]; exact HACC.out⟩
        · obtain rfl : j = n := by omega
          have HV : Hid (sameU xs ys = (j : Int)) := Lib.hid (sameU_eq (by have := HL.out; omega) (by have := HL2.out; omega) hsame (.inl HL.out.symm))
          have HOA := Lib.hid hown
          have HSIZE := Lib.hid hsize
          clear hown hopn hsame hsize
          go_wp2_with (at_len; refine wpList_len_own _ rfl _ 143 rfl 3 3 Try.underlying143 _ w.heap.size k D rfl HOA.out ?_; rw [HSIZE.out])
          go_ret
          exact ⟨by rw [HV.out]; rfl, hbl⟩
set_option maxHeartbeats 4000000 in
set_option maxRecDepth 100000 in
theorem spec_SameUntil (A : Option Addr) (n c B : Nat) (xs : List Ent) (A2 : Option Addr) (n2 c2 B2 : Nat) (ys : List Ent) (w : World) (h : EntsAt w B A n xs) (h2 : EntsAt w B2 A2 n2 ys) (hB : B ≤ w.heap.size) (hB2 : B2 ≤ w.heap.size) (hn : n ≤ 4294967296) (hn2 : n2 ≤ 4294967296) :
    Calls Try.prog 51 #[.slice A n c, .slice A2 n2 c2] w fun e w' => e = .returned (.int .i64 (sameU xs ys)) ∧ Below w.heap.size w w' := by
  have HL := Lib.hid h.1
  have HL2 := Lib.hid h2.1
  go_enter Try.func51, Try.ntmps51
  go_wp2
  go_loopw [5] (fun i wr => ∃ j : Nat, j ≤ n ∧ j ≤ n2 ∧ i = .int .i64 j ∧ (∀ i, i < j → (entA xs i).mac = (entA ys i).mac) ∧ Below w.heap.size w wr) (fun i _ => n - (intOf i).toNat)
  case atStart => exact ⟨0, Nat.zero_le _, Nat.zero_le _, rfl, fun i hi => absurd hi (by omega), Below.refl _ _⟩
  case round =>
    obtain ⟨j, hj, hj2, rfl, hsame, hbl⟩ := hrel
    have hsz := hbl.size
    have HSAME := Lib.hid hsame
    clear hsame
    by_cases hlt : j < n
    · by_cases hlt2 : j < n2
      · obtain ⟨ad, A', m, c', rfl, hab, hq, hi, hmc, hnil⟩ := h.at hlt
        obtain ⟨ad2, A3, m3, c3, rfl, hab2, hq2, hi2, hmc2, hnil2⟩ := h2.at hlt2
        have x2 := (hq.below hbl (by omega)).c2
        have y2 := (hq2.below hbl (by omega)).c2
        have i1 : (0 : Int) ≤ (j : Int) := by omega
        have i2 : (j : Int) < (n : Int) := by omega
        have i3 : (j : Int) < (n2 : Int) := by omega
        have HY : Hid ((entA xs j).mac ≠ (entA ys j).mac → sameU xs ys = (j : Int)) := Lib.hid (fun e2 => sameU_eq (by have := HL.out; omega) (by have := HL2.out; omega) HSAME.out (.inr (.inr ⟨by have := HL.out; omega, by have := HL2.out; omega, e2⟩)))
        have HZ : Hid ((entA xs j).mac = (entA ys j).mac → ∀ i, i < j + 1 → (entA xs i).mac = (entA ys i).mac) := Lib.hid (fun e i hi => by
          by_cases e2 : i = j
          · subst e2; exact e
          · exact HSAME.out i (by omega))
        clear hq hq2 hi hi2
        generalize (entA xs j).mac = p at *
        generalize (entA ys j).mac = q at *
        by_cases hpq : p = q
        · have e1 : (p == q) = true := by simpa using hpq
          have HZ2 := Lib.hid (HZ.out hpq)
          clear hpq
          go_wp2
          go_quiet (fail)
          go_wp2
          go_roundw
          case rel => exact ⟨j + 1, by omega, by omega, by go_num, HZ2.out, belowN hbl _⟩
          case measure => simp [intOf]; omega
        · have e1 : (p == q) = false := by simpa using hpq
          have HV := Lib.hid (HY.out hpq)
          clear hpq
          go_wp2
          go_quiet (fail)
          go_wp2
          go_ret
          exact ⟨by rw [HV.out]; rfl, belowN hbl _⟩
      · have HV : Hid (sameU xs ys = (j : Int)) := Lib.hid (sameU_eq (by have := HL.out; omega) (by have := HL2.out; omega) HSAME.out (.inr (.inl (by have := HL2.out; omega))))
        have i2 : (j : Int) < (n : Int) := by omega
        have i3 : ¬ (j : Int) < (n2 : Int) := by omega
        go_wp2
        go_quiet (fail)
        go_wp2
        go_ret
        exact ⟨by rw [HV.out]; rfl, belowN hbl _⟩
    · have HV : Hid (sameU xs ys = (j : Int)) := Lib.hid (sameU_eq (by have := HL.out; omega) (by have := HL2.out; omega) HSAME.out (.inl (by have := HL.out; omega)))
      have i2 : ¬ (j : Int) < (n : Int) := by omega
      go_wp2
      go_quiet (fail)
      go_wp2
      go_ret
      exact ⟨by rw [HV.out]; rfl, belowN hbl _⟩
end Go.Proofs.Ytdlcjmdkafebpaa
