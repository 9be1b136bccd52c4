/- Chapter 19: the table of lamps (a map from path and colour to whether the lamp is broken): the program. -/
import Derived.Test.YtdlcjmdkafebpaaInts
import Derived.Test.YtdlcjmdkafebpaaLmp
import Derived.Test.YtdlcjmdkafebpaaLaw
import Derived.Deep.RegionHeld3
import Derived.DeepKeys4
import Derived.WalkKit
import Derived.Maps.Own
import Derived.Maps.OwnOps
import Derived.Maps.OwnSet
import Derived.Maps.Views
namespace Go.Proofs.Ytdlcjmdkafebpaa
open Go.RowKit Go.Maps
set_option linter.unusedVariables false

/-- whether there is a lamp for a path and a colour, and whether one is broken. -/
def hasL (zs : List Lmp) (a b : Int) : Bool := zs.any fun x => decide (x.path = a) && decide (x.colour = b)
def brkL (zs : List Lmp) (a b : Int) : Bool := zs.any fun x => decide (x.path = a) && (decide (x.colour = b) && x.broken)
theorem hasL_take {zs : List Lmp} {k : Nat} {x : Lmp} (h : zs[k]? = some x) (a b : Int) : hasL (zs.take (k + 1)) a b = (hasL (zs.take k) a b || (decide (x.path = a) && decide (x.colour = b))) := by
  unfold hasL
  rw [List.take_add_one, h, List.any_append]
  simp
theorem brkL_take {zs : List Lmp} {k : Nat} {x : Lmp} (h : zs[k]? = some x) (a b : Int) : brkL (zs.take (k + 1)) a b = (brkL (zs.take k) a b || (decide (x.path = a) && (decide (x.colour = b) && x.broken))) := by
  unfold brkL
  rw [List.take_add_one, h, List.any_append]
  simp
def lmpA (zs : List Lmp) (k : Nat) : Lmp := zs.getD k ⟨0, 0, false⟩
theorem lmpA_some {zs : List Lmp} {k : Nat} {x : Lmp} (h : zs[k]? = some x) : lmpA zs k = x := by unfold lmpA; rw [List.getD_eq_getElem?_getD, h]; rfl
/-- how many lamps there are, each counted once. -/
def distL (zs : List Lmp) : Nat → Nat
  | 0 => 0
  | k + 1 => if hasL (zs.take k) (lmpA zs k).path (lmpA zs k).colour then distL zs k else distL zs k + 1
theorem distL_le (zs : List Lmp) : ∀ k, distL zs k ≤ k
  | 0 => Nat.le_refl _
  | k + 1 => by
    have := distL_le zs k
    unfold distL
    split <;> omega
theorem distL_all (zs : List Lmp) : ∀ k, distL zs k = k ↔ ∀ i, i < k → hasL (zs.take i) (lmpA zs i).path (lmpA zs i).colour = false
  | 0 => by simp [distL]
  | k + 1 => by
    have ih := distL_all zs k
    have hle := distL_le zs k
    unfold distL
    cases h : hasL (zs.take k) (lmpA zs k).path (lmpA zs k).colour
    · rw [if_neg (by simp)]
      constructor
      · intro e i hi
        by_cases e2 : i = k
        · subst e2; exact h
        · exact ih.1 (by omega) i (by omega)
      · intro e
        rw [ih.2 (fun i hi => e i (by omega))]
    · rw [if_pos rfl]
      constructor
      · intro e; omega
      · intro e
        have := e k (by omega)
        rw [h] at this
        cases this
theorem keyLits_two {P : Program} {t : TypeId} {f0 f1 : Field} {d : Nat} {a b : Int} (hs : P.underlying t = some (.struct #[f0, f1])) (h0 : f0.offset = 0) (h1 : f1.offset = 1) (hc : P.cellsOf t = 2) (hn : (#[f0, f1].all (·.name != "_")) = true)
    (hi0 : P.underlying f0.type = some (.int .i64)) (hi1 : P.underlying f1.type = some (.int .i64)) (hc0 : P.cellsOf f0.type = 1) (hc1 : P.cellsOf f1.type = 1) (wa : (Lit.int .i64 a).wf = true) (wb : (Lit.int .i64 b).wf = true) :
    P.keyLits (d + 1 + 1) t [.int .i64 a, .int .i64 b] = some [.int .i64 a, .int .i64 b] := by
  have e0 : P.keyLits (d + 1) f0.type [.int .i64 a] = some [.int .i64 a] := by simp [Program.keyLits, hi0, wa]
  have e1 : P.keyLits (d + 1) f1.type [.int .i64 b] = some [.int .i64 b] := by simp [Program.keyLits, hi1, wb]
  unfold Program.keyLits
  simp only [hs]
  rw [if_pos ⟨by simp [hc], hn⟩]
  simp [h0, h1, hc0, hc1, e0, e1]
theorem plainElem_bool_inv {H : Type} {P : Program} {e : TypeId} (he : P.underlying e = some .bool) {v : Value} {z : DataW H × List MemPlace} (h : plainElem P e v = some z) : ∃ x, v = .bool x ∧ z = (.lit (.bool x), []) := by
  unfold plainElem at h
  rw [he] at h
  cases v <;> simp at h
  exact ⟨_, rfl, h.symm⟩
theorem ownsMap_lookup_bool {H : Type} {P : Program} {k e t : TypeId} {w : World} {b n : Nat} {D : DataW H} (h : w.ownsMap P k (plainElem P e) b n D) (K : Keyed P k) (ht : P.underlying t = some (.map k e)) (he : P.underlying e = some .bool) (hz : (zeroValue e).run P w = .ok (.bool false) w)
    {key : Value} {kl : Lit} (hkey : keyOf P k key = some kl) {c : Bool} (hc : D.atKey kl (.lit (.bool false)) = .lit (.bool c)) : (Instr.lookup t (.map (some b)) key false).run P w = .ok (.bool c) w := by
  obtain ⟨v, ps, hrun, hv⟩ := h.lookup K ht hz (plainElem_bool he false) hkey
  obtain ⟨x, rfl, hx⟩ := plainElem_bool_inv he hv
  rw [hc] at hx
  injection hx with hx
  injection hx with hx
  injection hx with hx
  rw [hrun, hx]
theorem lk_law : Keyed Try.prog 115 := Keyed.of_law (deep_law_laid (m := 20) laidOutAll (by decide) (by decide +kernel) (by kernel_rfl) (by kernel_rfl))
theorem lk_zero (w : World) : (zeroValue 4).run Try.prog w = .ok (.bool false) w := by kernel_rfl
theorem lk_key (a b : Int) (wa : (Lit.int .i64 a).wf = true) (wb : (Lit.int .i64 b).wf = true) : ∃ l, keyOf Try.prog 115 (.agg #[.int .i64 a, .int .i64 b]) = some l := by
  have k1 : (Try.prog.keyType 115) = true := by kernel_rfl
  have k2 : (Value.agg #[.int .i64 a, .int .i64 b]).formed Try.prog 115 = true := by kernel_rfl
  have k3 : Try.prog.types.size = (Try.prog.types.size - 1) + 1 := by kernel_rfl
  have k4 := keyLits_two (P := Try.prog) (d := Try.prog.types.size - 1) Try.underlying115 rfl rfl (by kernel_rfl) (by kernel_rfl) Try.underlying3 Try.underlying3 (by kernel_rfl) (by kernel_rfl) wa wb
  rw [← k3] at k4
  unfold keyOf
  rw [Try.underlying115]
  simp only
  rw [if_pos (by rw [k1, k2]; rfl)]
  have e : (Value.agg #[.int .i64 a, .int .i64 b]).cells.toList = [.int .i64 a, .int .i64 b] := rfl
  rw [e, k4]
  exact ⟨_, rfl⟩
/-- block b is the table of these lamps. -/
def TabD (D : DataW Unit) (zs : List Lmp) (m : Nat) : Prop :=
  Tidy D ∧ (∀ a c l, keyOf Try.prog 115 (.agg #[.int .i64 a, .int .i64 c]) = some l → D.atKey l (.lit (.bool false)) = .lit (.bool (brkL zs a c)) ∧ Maps.has D l = hasL zs a c) ∧ Maps.size D = m
def TabAt (w : World) (b : Nat) (zs : List Lmp) : Prop := ∃ D : DataW Unit, w.ownsMap Try.prog 115 (plainElem Try.prog 4) b zs.length D ∧ TabD D zs (distL zs zs.length)
theorem TabAt.below {w w' : World} {b : Nat} {zs : List Lmp} (h : TabAt w b zs) (hb : Below w.heap.size w w') : TabAt w' b zs := by
  obtain ⟨D, h1, h2⟩ := h
  exact ⟨D, h1.kept (only_of_below hb none) (by simp), h2⟩
theorem TabD.step {D : DataW Unit} {zs : List Lmp} {k : Nat} {p : Lmp} {l : Lit} (h : TabD D (zs.take k) (distL zs k)) (hp : zs[k]? = some p) (hl : keyOf Try.prog 115 (.agg #[.int .i64 p.path, .int .i64 p.colour]) = some l) :
    TabD (D.put l (.lit (.bool (brkL (zs.take k) p.path p.colour || p.broken)))) (zs.take (k + 1)) (distL zs (k + 1)) := by
  obtain ⟨h1, h2, h3⟩ := h
  have hk := lk_law.key hl
  refine ⟨h1.put hk _, fun a c l' hl' => ?_, ?_⟩
  · rw [hasL_take hp, brkL_take hp]
    by_cases e : l' = l
    · subst e
      have hinj := lk_law.inj hl hl'
      injection hinj with hinj
      obtain ⟨e1, e2⟩ : p.path = a ∧ p.colour = c := by simpa using congrArg Array.toList hinj
      subst e1
      subst e2
      rw [atKey_put_same h1.isMap hk, has_put_same h1.isMap hk]
      simp
    · rw [atKey_put_other e, has_put_other e]
      obtain ⟨g1, g2⟩ := h2 a c l' hl'
      have hne : (decide (p.path = a) && decide (p.colour = c)) = false := by
        rw [Bool.and_eq_false_iff]
        by_cases e1 : p.path = a
        · by_cases e2 : p.colour = c
          · exfalso
            rw [e1, e2, hl'] at hl
            exact e (Option.some.inj hl)
          · exact .inr (decide_eq_false e2)
        · exact .inl (decide_eq_false e1)
      have hne2 : (decide (p.path = a) && (decide (p.colour = c) && p.broken)) = false := by rw [← Bool.and_assoc, hne, Bool.false_and]
      rw [hne, hne2, Bool.or_false, Bool.or_false]
      exact ⟨g1, g2⟩
  · rw [size_put h1, (h2 _ _ _ hl).2, h3]
    show _ = if hasL (zs.take k) (lmpA zs k).path (lmpA zs k).colour then distL zs k else distL zs k + 1
    rw [lmpA_some hp]
theorem impl_key (p : Lmp) (w : World) : Calls Try.prog 98 #[p.val] w fun e w' => e = .returned (.agg #[.int .i64 p.path, .int .i64 p.colour]) ∧ Below w.heap.size w w' := by
  obtain ⟨a, b, c⟩ := p
  simp only [Lmp.val]
  have HB := Lib.hid (((Below.refl w.heap.size w).alloc (Nat.le_refl _) (.cells #[.int .i64 a, .int .i64 b, .bool c] 108)).alloc (by simp) (.cells #[.int .i64 a, .int .i64 b] 115))
  go_enter Try.func98, Try.ntmps98
  go_wp2
  refine bodyPost_ret (by rw [results_cell rfl]; go_simp; try rfl) rfl ?_
  exact ⟨rfl, HB.out⟩
set_option maxHeartbeats 4000000 in
set_option maxRecDepth 100000 in
theorem impl_lampTableOf (A : Option Addr) (n c B : Nat) (zs : List Lmp) (w : World) (h : LmpsAt w B A n zs) (hB : B ≤ w.heap.size) (hn : n ≤ 4294967296) (hw : ∀ z ∈ zs, z.wf) :
    Calls Try.prog 82 #[.slice A n c] w fun e w' => ∃ b, e = .returned (.map (some b)) ∧ TabAt w' b zs ∧ Below w.heap.size w w' := by
  have hl := h.1
  have hmm := @run_makeMap Try.prog
  have hmx : Try.prog.follows .mixedOrders = true := by kernel_rfl
  go_enter Try.func82, Try.ntmps82
  go_wp2
  go_loopw [9] (fun i wr => ∃ k : Nat, k ≤ n ∧ i = .int .i64 k ∧ (∃ D : DataW Unit, wr.ownsMap Try.prog 115 (plainElem Try.prog 4) w.heap.size k D ∧ TabD D (zs.take k) (distL zs k)) ∧ Below w.heap.size w wr) (fun i _ => n - (intOf i).toNat)
  case atStart => exact ⟨0, Nat.zero_le _, rfl, ⟨.map [], World.ownsMap_made _ _ _ _, tidy_empty, fun a c l _ => ⟨rfl, rfl⟩, rfl⟩, (Below.refl _ _).alloc (Nat.le_refl _) _⟩
  case round =>
    obtain ⟨k, hk, rfl, ⟨D, hown, htab⟩, hbl⟩ := hrel
    have hsz := hbl.size
    by_cases hlt : k < n
    · obtain ⟨ad, p, rfl, hab, hp, hq⟩ := h.at hlt
      obtain ⟨c0, c1, c2⟩ := hq.below hbl (by omega)
      have i1 : (0 : Int) ≤ (k : Int) := by omega
      have i2 : (k : Int) < (n : Int) := by omega
      obtain ⟨wp, wc⟩ := hw p (List.mem_of_getElem? hp)
      obtain ⟨l, hkey⟩ := lk_key p.path p.colour wp wc
      have hcc := (htab.2.1 _ _ _ hkey).1
      have htab' := htab.step hp hkey
      have hwb : w.heap.size < wr.heap.size := hown.lt
      obtain ⟨wA, hwA⟩ : ∃ wA, wA = wr.alloc (.cells #[.int .i64 p.path, .int .i64 p.colour, .bool p.broken] 108) := ⟨_, rfl⟩
      obtain ⟨hk0, hszA, hBA⟩ := one_block hwA
      have bx : LmpAt wA ⟨wr.heap.size, 0, none⟩ p := lmp_of_block hk0
      have ltx : wr.heap.size < wA.heap.size := by omega
      have acc := hbl.trans (hBA.mono hsz)
      replace hown := hown.kept (only_of_below hBA none) (by simp)
      have hkc := fun w => impl_key p w
      generalize brkL (zs.take k) p.path p.colour = ob at *
      obtain ⟨nb, hnb⟩ : ∃ nb, (ob || p.broken) = nb := ⟨_, rfl⟩
      rw [hnb] at htab'
      have HTAB := Lib.hid htab'
      obtain ⟨br, hbr⟩ : ∃ br, p.broken = br := ⟨_, rfl⟩
      rw [hbr] at hnb hwA c2
      replace bx : LmpAt wA ⟨wr.heap.size, 0, none⟩ ⟨p.path, p.colour, br⟩ := by rw [← hbr]; exact bx
      simp only [Lmp.val, hbr] at hkc
      obtain ⟨x0, x1, x2⟩ := lmp_head bx
      (try simp only at x0 x1 x2)
      clear htab htab' hq hp hk0 hszA hBA hbl hbr hmm
      cases ob
      · simp only [Bool.false_or] at hnb
        subst hnb
        go_wp2
        rw [← hwA]
        clear hwA c0 c1 c2
        refine wp_region_held_drew (S := fun W' => W'.cell? ⟨wr.heap.size, 0, none⟩ = some (.int .i64 p.path) ∧ W'.cell? ⟨wr.heap.size, 1, none⟩ = some (.int .i64 p.colour) ∧ W'.cell? ⟨wr.heap.size, 2, none⟩ = some (.bool br)) hmx ⟨x0, x1, x2⟩ (fun hH => ?_)
        replace hown := hown.drew
        replace bx : LmpAt wA.drew ⟨wr.heap.size, 0, none⟩ ⟨p.path, p.colour, br⟩ := bx.keep rfl
        replace ltx : wr.heap.size < wA.drew.heap.size := ltx
        replace acc : Below w.heap.size w wA.drew := belowN acc 1
        clear x0 x1 x2
        refine wpAnyH_take (i := 0) (v := .map (some w.heap.size)) rfl (by kernel_rfl) (by kernel_rfl) (by kernel_rfl) (fun _ _ _ h => h) (Or.inl ⟨by rfl, by intro w hSw; go_simp⟩) hH ?_
        try simp only [Act.put, List.setIfInBounds_toArray, List.set_cons_zero, List.set_cons_succ]
        refine wpAnyH_take (i := 1) (v := .agg #[.int .i64 p.path, .int .i64 p.colour, .bool br]) rfl (by kernel_rfl) (by kernel_rfl) (by kernel_rfl) (fun _ _ _ h => h) (Or.inl ⟨by rfl, by intro w hSw; obtain ⟨s0, s1, s2⟩ := hSw; go_simp⟩) hH ?_
        try simp only [Act.put, List.setIfInBounds_toArray, List.set_cons_zero, List.set_cons_succ]
        refine wpAnyH_take (i := 3) (v := .map (some w.heap.size)) rfl (by kernel_rfl) (by kernel_rfl) (by kernel_rfl) (fun _ _ _ h => h) (Or.inl ⟨by rfl, by intro w hSw; go_simp⟩) hH ?_
        try simp only [Act.put, List.setIfInBounds_toArray, List.set_cons_zero, List.set_cons_succ]
        refine wpAnyH_take (i := 4) (v := .agg #[.int .i64 p.path, .int .i64 p.colour, .bool br]) rfl (by kernel_rfl) (by kernel_rfl) (by kernel_rfl) (fun _ _ _ h => h) (Or.inl ⟨by rfl, by intro w hSw; obtain ⟨s0, s1, s2⟩ := hSw; go_simp⟩) hH ?_
        try simp only [Act.put, List.setIfInBounds_toArray, List.set_cons_zero, List.set_cons_succ]
        refine wpAnyH_ready (rs := [2]) (by decide +kernel) (by simp) (AllReadyH.cons rfl (fun K hK => ?_) AllReadyH.nil)
        go_simp
        refine (hkc _).mono ?_
        rintro e w1 ⟨rfl, hb⟩
        go_wp2_with fail
        replace hown := hown.kept (only_of_below hb none) (by simp)
        replace bx := bx.below hb ltx
        replace ltx := Nat.lt_of_lt_of_le ltx hb.size
        replace acc := acc.trans (hb.mono acc.size)
        clear hb
        obtain ⟨x0, x1, x2⟩ := lmp_head bx
        (try simp only at x0 x1 x2)
        refine hK.out _ _ ⟨x0, x1, x2⟩ (fun hH => ?_)
        clear hK K x0 x1 x2
        try simp only [Act.put, List.setIfInBounds_toArray, List.set_cons_zero, List.set_cons_succ]
        refine wpAnyH_ready (rs := [5]) (by decide +kernel) (by simp) (AllReadyH.cons rfl (fun K hK => ?_) AllReadyH.nil)
        go_simp
        refine (hkc _).mono ?_
        rintro e w1 ⟨rfl, hb⟩
        go_wp2_with fail
        replace hown := hown.kept (only_of_below hb none) (by simp)
        replace bx := bx.below hb ltx
        replace ltx := Nat.lt_of_lt_of_le ltx hb.size
        replace acc := acc.trans (hb.mono acc.size)
        clear hb
        obtain ⟨x0, x1, x2⟩ := lmp_head bx
        (try simp only at x0 x1 x2)
        refine hK.out _ _ ⟨x0, x1, x2⟩ (fun hH => ?_)
        clear hK K x0 x1 x2
        try simp only [Act.put, List.setIfInBounds_toArray, List.set_cons_zero, List.set_cons_succ]
        refine wpAnyH_ready (rs := [6]) (by decide +kernel) (by simp) (AllReadyH.cons rfl (fun K hK => ?_) AllReadyH.nil)
        have hrun := ownsMap_lookup_bool hown lk_law Try.underlying112 Try.underlying4 (lk_zero _) hkey hcc
        go_simp
        refine hK.out _ _ hH (fun hH => ?_)
        clear hK K hrun
        try simp only [Act.put, List.setIfInBounds_toArray, List.set_cons_zero, List.set_cons_succ]
        refine wpAnyH_take (i := 7) (v := .bool false) rfl (by kernel_rfl) (by kernel_rfl) (by kernel_rfl) (fun _ _ _ h => h) (Or.inl ⟨by rfl, by intro w hSw; go_simp⟩) hH ?_
        try simp only [Act.put, List.setIfInBounds_toArray, List.set_cons_zero, List.set_cons_succ]
        refine wpAnyH_take (i := 8) (v := .pointer (some ⟨wr.heap.size, 2, none⟩)) rfl (by kernel_rfl) (by kernel_rfl) (by kernel_rfl) (fun _ _ _ h => h) (Or.inl ⟨by rfl, by intro w hSw; go_simp⟩) hH ?_
        try simp only [Act.put, List.setIfInBounds_toArray, List.set_cons_zero, List.set_cons_succ]
        refine wpAnyH_take (i := 9) (v := .bool br) rfl (by kernel_rfl) (by kernel_rfl) (by kernel_rfl) (fun _ _ _ h => h) (Or.inl ⟨by rfl, by intro w hSw; obtain ⟨s0, s1, s2⟩ := hSw; go_simp⟩) hH ?_
        try simp only [Act.put, List.setIfInBounds_toArray, List.set_cons_zero, List.set_cons_succ]
        refine wpAnyH_take (i := 10) (v := .bool br) rfl (by kernel_rfl) (by kernel_rfl) (by kernel_rfl) (fun _ _ _ h => h) (Or.inl ⟨by rfl, by intro w hSw; go_simp⟩) hH ?_
        try simp only [Act.put, List.setIfInBounds_toArray, List.set_cons_zero, List.set_cons_succ]
        refine wpAnyH_ready (rs := [11]) (by decide +kernel) (by simp) (AllReadyH.cons rfl (fun K hK => ?_) AllReadyH.nil)
        obtain ⟨w9, hrun, hown9, hgrow9⟩ := hown.update lk_law Try.underlying112 (by unfold maxLen; omega) hkey (plainElem_bool Try.underlying4 br)
        have hbx9 := hgrow9.block wr.heap.size ltx (by intro e; injection e with e; omega)
        replace bx := bx.keep hbx9
        replace acc := acc.grown hgrow9 acc.size (fun j hj => by cases hj; exact Nat.le_refl _)
        obtain ⟨x0, x1, x2⟩ := lmp_head bx
        (try simp only at x0 x1 x2)
        go_simp
        refine hK.out _ _ ⟨x0, x1, x2⟩ (fun hH => ?_)
        clear hK K hrun
        try simp only [Act.put, List.setIfInBounds_toArray, List.set_cons_zero, List.set_cons_succ]
        refine wpAnyH_done (by decide +kernel) ?_ _
        have HOWN := Lib.hid hown9
        have ACC := Lib.hid acc
        clear hown9 acc hown hgrow9 hbx9 x0 x1 x2 bx
        go_wp2
        go_roundw
        case rel => exact ⟨k + 1, by omega, by go_num, ⟨_, HOWN.out, HTAB.out⟩, ACC.out⟩
        case measure => simp [intOf]; omega
      · simp only [Bool.true_or] at hnb
        subst hnb
        go_wp2
        rw [← hwA]
        clear hwA c0 c1 c2
        refine wp_region_held_drew (S := fun W' => W'.cell? ⟨wr.heap.size, 0, none⟩ = some (.int .i64 p.path) ∧ W'.cell? ⟨wr.heap.size, 1, none⟩ = some (.int .i64 p.colour) ∧ W'.cell? ⟨wr.heap.size, 2, none⟩ = some (.bool br)) hmx ⟨x0, x1, x2⟩ (fun hH => ?_)
        replace hown := hown.drew
        replace bx : LmpAt wA.drew ⟨wr.heap.size, 0, none⟩ ⟨p.path, p.colour, br⟩ := bx.keep rfl
        replace ltx : wr.heap.size < wA.drew.heap.size := ltx
        replace acc : Below w.heap.size w wA.drew := belowN acc 1
        clear x0 x1 x2
        refine wpAnyH_take (i := 0) (v := .map (some w.heap.size)) rfl (by kernel_rfl) (by kernel_rfl) (by kernel_rfl) (fun _ _ _ h => h) (Or.inl ⟨by rfl, by intro w hSw; go_simp⟩) hH ?_
        try simp only [Act.put, List.setIfInBounds_toArray, List.set_cons_zero, List.set_cons_succ]
        refine wpAnyH_take (i := 1) (v := .agg #[.int .i64 p.path, .int .i64 p.colour, .bool br]) rfl (by kernel_rfl) (by kernel_rfl) (by kernel_rfl) (fun _ _ _ h => h) (Or.inl ⟨by rfl, by intro w hSw; obtain ⟨s0, s1, s2⟩ := hSw; go_simp⟩) hH ?_
        try simp only [Act.put, List.setIfInBounds_toArray, List.set_cons_zero, List.set_cons_succ]
        refine wpAnyH_take (i := 3) (v := .map (some w.heap.size)) rfl (by kernel_rfl) (by kernel_rfl) (by kernel_rfl) (fun _ _ _ h => h) (Or.inl ⟨by rfl, by intro w hSw; go_simp⟩) hH ?_
        try simp only [Act.put, List.setIfInBounds_toArray, List.set_cons_zero, List.set_cons_succ]
        refine wpAnyH_take (i := 4) (v := .agg #[.int .i64 p.path, .int .i64 p.colour, .bool br]) rfl (by kernel_rfl) (by kernel_rfl) (by kernel_rfl) (fun _ _ _ h => h) (Or.inl ⟨by rfl, by intro w hSw; obtain ⟨s0, s1, s2⟩ := hSw; go_simp⟩) hH ?_
        try simp only [Act.put, List.setIfInBounds_toArray, List.set_cons_zero, List.set_cons_succ]
        refine wpAnyH_ready (rs := [2]) (by decide +kernel) (by simp) (AllReadyH.cons rfl (fun K hK => ?_) AllReadyH.nil)
        go_simp
        refine (hkc _).mono ?_
        rintro e w1 ⟨rfl, hb⟩
        go_wp2_with fail
        replace hown := hown.kept (only_of_below hb none) (by simp)
        replace bx := bx.below hb ltx
        replace ltx := Nat.lt_of_lt_of_le ltx hb.size
        replace acc := acc.trans (hb.mono acc.size)
        clear hb
        obtain ⟨x0, x1, x2⟩ := lmp_head bx
        (try simp only at x0 x1 x2)
        refine hK.out _ _ ⟨x0, x1, x2⟩ (fun hH => ?_)
        clear hK K x0 x1 x2
        try simp only [Act.put, List.setIfInBounds_toArray, List.set_cons_zero, List.set_cons_succ]
        refine wpAnyH_ready (rs := [5]) (by decide +kernel) (by simp) (AllReadyH.cons rfl (fun K hK => ?_) AllReadyH.nil)
        go_simp
        refine (hkc _).mono ?_
        rintro e w1 ⟨rfl, hb⟩
        go_wp2_with fail
        replace hown := hown.kept (only_of_below hb none) (by simp)
        replace bx := bx.below hb ltx
        replace ltx := Nat.lt_of_lt_of_le ltx hb.size
        replace acc := acc.trans (hb.mono acc.size)
        clear hb
        obtain ⟨x0, x1, x2⟩ := lmp_head bx
        (try simp only at x0 x1 x2)
        refine hK.out _ _ ⟨x0, x1, x2⟩ (fun hH => ?_)
        clear hK K x0 x1 x2
        try simp only [Act.put, List.setIfInBounds_toArray, List.set_cons_zero, List.set_cons_succ]
        refine wpAnyH_ready (rs := [6]) (by decide +kernel) (by simp) (AllReadyH.cons rfl (fun K hK => ?_) AllReadyH.nil)
        have hrun := ownsMap_lookup_bool hown lk_law Try.underlying112 Try.underlying4 (lk_zero _) hkey hcc
        go_simp
        refine hK.out _ _ hH (fun hH => ?_)
        clear hK K hrun
        try simp only [Act.put, List.setIfInBounds_toArray, List.set_cons_zero, List.set_cons_succ]
        refine wpAnyH_take (i := 7) (v := .bool true) rfl (by kernel_rfl) (by kernel_rfl) (by kernel_rfl) (fun _ _ _ h => h) (Or.inl ⟨by rfl, by intro w hSw; go_simp⟩) hH ?_
        try simp only [Act.put, List.setIfInBounds_toArray, List.set_cons_zero, List.set_cons_succ]
        refine wpAnyH_take (i := 8) (v := undef) rfl (by kernel_rfl) (by kernel_rfl) (by kernel_rfl) (fun _ _ _ h => h) (Or.inr ⟨by rfl, rfl⟩) hH ?_
        try simp only [Act.put, List.setIfInBounds_toArray, List.set_cons_zero, List.set_cons_succ]
        refine wpAnyH_take (i := 9) (v := undef) rfl (by kernel_rfl) (by kernel_rfl) (by kernel_rfl) (fun _ _ _ h => h) (Or.inr ⟨by rfl, rfl⟩) hH ?_
        try simp only [Act.put, List.setIfInBounds_toArray, List.set_cons_zero, List.set_cons_succ]
        refine wpAnyH_take (i := 10) (v := .bool true) rfl (by kernel_rfl) (by kernel_rfl) (by kernel_rfl) (fun _ _ _ h => h) (Or.inl ⟨by rfl, by intro w hSw; go_simp⟩) hH ?_
        try simp only [Act.put, List.setIfInBounds_toArray, List.set_cons_zero, List.set_cons_succ]
        refine wpAnyH_ready (rs := [11]) (by decide +kernel) (by simp) (AllReadyH.cons rfl (fun K hK => ?_) AllReadyH.nil)
        obtain ⟨w9, hrun, hown9, hgrow9⟩ := hown.update lk_law Try.underlying112 (by unfold maxLen; omega) hkey (plainElem_bool Try.underlying4 true)
        have hbx9 := hgrow9.block wr.heap.size ltx (by intro e; injection e with e; omega)
        replace bx := bx.keep hbx9
        replace acc := acc.grown hgrow9 acc.size (fun j hj => by cases hj; exact Nat.le_refl _)
        obtain ⟨x0, x1, x2⟩ := lmp_head bx
        (try simp only at x0 x1 x2)
        go_simp
        refine hK.out _ _ ⟨x0, x1, x2⟩ (fun hH => ?_)
        clear hK K hrun
        try simp only [Act.put, List.setIfInBounds_toArray, List.set_cons_zero, List.set_cons_succ]
        refine wpAnyH_done (by decide +kernel) ?_ _
        have HOWN := Lib.hid hown9
        have ACC := Lib.hid acc
        clear hown9 acc hown hgrow9 hbx9 x0 x1 x2 bx
        go_wp2
        go_roundw
        case rel => exact ⟨k + 1, by omega, by go_num, ⟨_, HOWN.out, HTAB.out⟩, ACC.out⟩
        case measure => simp [intOf]; omega
    · obtain rfl : k = n := by omega
      have HO : Hid (TabAt wr w.heap.size zs) := Lib.hid (by rw [List.take_of_length_le (by omega)] at htab; exact ⟨D, by rw [hl]; exact hown, by rw [hl]; exact htab⟩)
      clear hown htab
      go_wp2
      go_ret
      exact ⟨_, rfl, HO.out, hbl⟩
end Go.Proofs.Ytdlcjmdkafebpaa
