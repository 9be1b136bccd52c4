/- Texts of one chain, put together: Shift WitS EntM LawShA. -/
import Derived.Test.YtblilnfkpfjclaaBndlB
set_option linter.unusedSimpArgs false
/- Chapter 22: ShiftOffsets: program and model. -/
namespace Go.Proofs.Ytblilnfkpfjclaa
open Go.RowKit
set_option linter.unusedVariables false

theorem lib_CloneF (A : Option Addr) (n c B : Nat) (zs : List Int) (w : World) (h : IntsAt .i64 w B A n zs) (hB : B ≤ w.heap.size) (hA : A = none → n = 0 ∧ c = 0) (hn : n ≤ 4294967296) :
    Calls Try.prog 83 #[.slice A n c] w fun e w' => ∃ v, e = .returned v ∧ Own .i64 3 w' w.heap.size v zs ∧ Below w.heap.size w w' := by
  have hl := h.1
  cases A with
  | none =>
    obtain ⟨rfl, rfl⟩ := hA rfl
    obtain rfl : zs = [] := List.eq_nil_of_length_eq_zero hl
    have hnil : ∀ W, (binOp .eql 42 (.slice none 0 0) (.slice none 0 0)).run Try.prog W = .ok (.bool true) W := fun W => eql_slice_nil Try.underlying42 _ _ _ W
    go_enter Try.func83, Try.ntmps83
    go_wp2
    go_ret
    exact ⟨_, rfl, own_nil _ _ _ _, Below.refl _ _⟩
  | some ad =>
    have hnil : ∀ W, (binOp .eql 42 (.slice (some ad) n c) (.slice none 0 0)).run Try.prog W = .ok (.bool false) W := fun W => eql_slice_nil Try.underlying42 _ _ _ W
    go_enter Try.func83, Try.ntmps83
    go_wp2_with (at_builtin; refine wpList_app rfl _ _ 42 42 rfl .i64 3 3 8 Try.underlying42 Try.underlying42 info_i64 w.heap.size _ [] rfl (own_bare _ _ w) (some ad) n c B zs rfl (h.keep fun p hp => World.cell?_of_block (Below.heap_alloc w _ _ (by omega))) hA (by decide) (by simp; omega) (by simp) ?_; intro v1 w1 hown1 hgrow1 hat1)
    go_ret
    exact ⟨v1, rfl, by simpa using hown1, (own_bare .i64 3 w).push (Nat.le_refl _) ((Below.refl _ _).alloc (Nat.le_refl _) _) (by simp) hgrow1⟩
/-- an offset that may be shifted. -/
def okO (o : Int) : Bool := inB o (-1000000) 1000000
/-- what ShiftOffsets answers. -/
def shiftO (zs : List Int) (m c : Int) : List Int := if inB c 1 200 && inB m (-1000000) 1000000 && zs.all okO then zs.map (fun o => modI (o + m) c) else zs
/-- the first k are shifted. -/
def shK (zs : List Int) (m c : Int) (k : Nat) : List Int := (zs.take k).map (fun o => modI (o + m) c) ++ zs.drop k
theorem shK_zero (zs : List Int) (m c : Int) : shK zs m c 0 = zs := by simp [shK]
theorem shK_length (zs : List Int) (m c : Int) (k : Nat) : (shK zs m c k).length = zs.length := by simp [shK]; omega
theorem shK_step {zs : List Int} {m c z : Int} {k : Nat} (h : zs[k]? = some z) : (shK zs m c k).set k (modI (z + m) c) = shK zs m c (k + 1) := by
  have hk := (List.getElem?_eq_some_iff.1 h).1
  have hz := (List.getElem?_eq_some_iff.1 h).2
  unfold shK
  rw [List.drop_eq_getElem_cons hk, hz, List.take_add_one, h]
  rw [List.set_append_right _ _ (by simp; omega)]
  simp [Nat.min_eq_left (Nat.le_of_lt hk)]
theorem shK_top {zs : List Int} {m c : Int} {k : Nat} (h : zs.length ≤ k) : shK zs m c k = zs.map (fun o => modI (o + m) c) := by
  unfold shK
  rw [List.take_of_length_le h, List.drop_of_length_le h, List.append_nil]
theorem shift_no1 {zs : List Int} {m c : Int} (h : (inB c 1 200 && inB m (-1000000) 1000000) = false) : shiftO zs m c = zs := by unfold shiftO; rw [h]; rfl
theorem shift_no2 {zs : List Int} {m c z : Int} {k : Nat} (h : zs[k]? = some z) (hz : okO z = false) : shiftO zs m c = zs := by
  unfold shiftO
  rw [show zs.all okO = false from List.all_eq_false.2 ⟨z, List.mem_of_getElem? h, by rw [hz]; decide⟩, Bool.and_false]
  rfl
theorem shift_yes {zs : List Int} {m c : Int} (h : (inB c 1 200 && inB m (-1000000) 1000000) = true) (ha : zs.all okO = true) : shiftO zs m c = zs.map (fun o => modI (o + m) c) := by unfold shiftO; rw [h, ha]; rfl
end Go.Proofs.Ytblilnfkpfjclaa

/- Chapter 28: ShownAt of the program. -/
namespace Go.Proofs.Ytblilnfkpfjclaa
open Go.RowKit
set_option linter.unusedVariables false

theorem shownA_recZ (zs : List Ent) (s : Int) : shownA zs s = if atK (recZ zs) s (recZ zs).length < 0 then ([], false) else ((entA (recZ zs) (atK (recZ zs) s (recZ zs).length).toNat).lights, true) := by
  unfold shownA
  rw [atE_recZ]
  cases h : isRec zs
  · rw [recZ_no h]
    have e : atK ([] : List Ent) s ([] : List Ent).length = -1 := rfl
    rw [e, if_pos (by decide), if_pos (by decide)]
  · rw [recZ_yes h]
set_option maxHeartbeats 2000000 in
theorem impl_ShownAt (A : Option Addr) (n c B : Nat) (zs : List Ent) (s : Int) (w : World) (h : EntsAt w B A n zs) (hB : B ≤ w.heap.size) (hn : n ≤ 4294967296) (hm : ∀ j, j < n → (entA zs j).lights.length ≤ 1048576) :
    Calls Try.prog 57 #[.slice A n c, .int .i64 s] w fun e w' => ∃ v, e = .returned (.tuple #[v, .bool (shownA zs s).2]) ∧ Own .i64 3 w' w.heap.size v (shownA zs s).1 ∧ Below w.heap.size w w' := by
  have hcc := impl_witnessOf A n c B zs w h hB hn hm
  have HV := Lib.hid (shownA_recZ zs s)
  have HM : Hid (∀ j, j < (recZ zs).length → (entA (recZ zs) j).lights.length ≤ 1048576) := Lib.hid fun j hj => by
    have hq := h.1
    cases e : isRec zs
    · rw [recZ_no e] at hj; exact absurd hj (by simp)
    · rw [recZ_yes e] at hj ⊢; exact hm j (by omega)
  generalize recZ zs = rs at *
  generalize shownA zs s = q at *
  clear h hm
  go_enter Try.func57, Try.ntmps57
  go_wp2_with fail
  refine hcc.mono ?_
  rintro r w1 ⟨A', n', c', rfl, I, hb1⟩
  obtain ⟨w2, hw2⟩ : ∃ w2, w2 = w1.alloc (.cells #[.slice A' n' c'] 96) := ⟨_, rfl⟩
  obtain ⟨hk2, -, hb2⟩ := one_block hw2
  have I2 := Lib.hid (I.below hb2)
  have HB2 := Lib.hid (hb1.trans (hb2.mono hb1.size))
  have HK2 := Lib.hid hk2
  have hlr := I.e.1
  have x0 := cell1w HK2.out
  rw [hw2] at x0
  clear hcc I hb1 hk2 hb2
  go_wp2_with fail
  rw [← hw2]
  rw [← hw2] at x0
  generalize w1.heap.size = g1 at *
  clear hw2
  refine (impl_witAt A' n' c' B rs s w2 I2.out).mono ?_
  rintro r w4 ⟨rfl, hb4⟩
  have I4 := Lib.hid (I2.out.below hb4)
  have HK4 := Lib.hid ((hb4.block _ (lt_of_block HK2.out)).trans HK2.out)
  have HB4 := Lib.hid (HB2.out.trans (hb4.mono HB2.out.size))
  clear hb4 I2 HB2 HK2 x0
  rw [hlr] at HV HM
  obtain ⟨b1, b2⟩ := atK_bound rs s n'
  generalize atK rs s n' = k at *
  by_cases h0 : k < 0
  · rw [if_pos h0] at HV
    obtain rfl : q = ([], false) := HV.out
    have HOW := Lib.hid (own_bare .i64 3 w4)
    clear HV HM I4
    go_wp2_with fail
    go_ret2
    exact ⟨_, rfl, HOW.out.mono HB4.out.size, HB4.out.alloc HB4.out.size _⟩
  · rw [if_neg h0] at HV
    obtain ⟨j, rfl⟩ : ∃ j : Nat, k = j := ⟨k.toNat, by omega⟩
    obtain rfl : q = ((entA rs j).lights, true) := by rw [HV.out]; rfl
    obtain ⟨ad, A1, m, c1, rfl, hab, hq, hi, hmc, hnil⟩ := I4.out.e.at (j := j) (by omega)
    have HI := Lib.hid hi
    have hmj := HM.out j (by omega)
    have hlm := hi.1
    have hc1 := hq.c1
    have i1 : (0 : Int) ≤ (j : Int) := by omega
    have i2 : (j : Int) < (n' : Int) := by omega
    have x0 := cell1w HK4.out
    have HBB := Lib.hid I4.out.B
    clear HV HM hq hi I4
    go_wp2_with fail
    refine (lib_CloneF A1 m c1 B _ w4 HI.out HBB.out hnil (by omega)).mono ?_
    rintro e w5 ⟨v, rfl, hown, hb5⟩
    have HO := Lib.hid hown
    have HB5 := Lib.hid (HB4.out.trans (hb5.mono HB4.out.size))
    clear hown hb5 x0 hc1
    go_wp2
    go_ret2
    exact ⟨_, rfl, HO.out.mono HB4.out.size, HB5.out⟩
end Go.Proofs.Ytblilnfkpfjclaa

/- Rows of entries marked: what the laws' helper does (the marks themselves are not said). -/
namespace Go.Proofs.Ytblilnfkpfjclaa
open Go.RowKit
set_option linter.unusedVariables false

/-- how many marks the first k entries take. -/
def totE (ps : List Ent) (k : Nat) : Nat := ((ps.take k).map fun p => p.lights.length + 2).sum
theorem totE_zero (ps : List Ent) : totE ps 0 = 0 := by simp [totE]
theorem totE_succ {ps : List Ent} {k : Nat} (h : k < ps.length) : totE ps (k + 1) = totE ps k + ((entA ps k).lights.length + 2) := by
  unfold totE
  rw [List.take_add_one, entA_get h, List.map_append, List.sum_append]
  simp
theorem totE_le {ps : List Ent} (h : SmallEnt ps) : ∀ k, k ≤ ps.length → totE ps k ≤ k * 1048578
  | 0, _ => by rw [totE_zero]; exact Nat.zero_le _
  | k + 1, hk => by
    have ih := totE_le h k (by omega)
    have := h.2 k (by omega)
    rw [totE_succ (by omega)]
    omega
theorem totE_top {ps : List Ent} (h : SmallEnt ps) {k : Nat} (hk : k ≤ ps.length) : totE ps k ≤ 1099513724928 := by
  have h1 := totE_le h k hk
  have h2 := h.1
  have : k * 1048578 ≤ 1048576 * 1048578 := Nat.mul_le_mul_right _ (by omega)
  omega
/-- the rows of the entries lie below hi. -/
theorem ent_ltu {w : World} {lo : Nat} {v : Value} {xs : List (Value × Ent)} {ps : List Ent} (h : OwnEnt w lo v xs ps) : ∀ x ∈ xs, ∀ g, x.1.ownBlock = some g → g < w.heap.size := by
  intro x hx g hg
  obtain ⟨j, hj, rfl⟩ := List.getElem_of_mem hx
  obtain ⟨u, h1, h2⟩ := h.each j (by have := h.len; omega)
  rw [List.getElem?_eq_getElem hj] at h1
  injection h1 with h1
  rw [h1] at hg
  exact (ownr_block h2 g hg).2
/-- the entries from the k-th on, as they were. -/
def RestE (w : World) (lo k n : Nat) (xs : List (Value × Ent)) (ps : List Ent) (cs : List Value) : Prop :=
  ∀ j, k ≤ j → j < n → ∃ u, xs[j]? = some (u, entA ps j) ∧ cs[j * 3 + 1]? = some u ∧ Own .i64 3 w lo u (entA ps j).lights
theorem RestE.grown {w w' : World} {lo k n : Nat} {xs : List (Value × Ent)} {ps : List Ent} {cs cs' : List Value} (h : RestE w lo k n xs ps cs) {g : Nat} (hg : w.grownBy w' (some g)) (hne : ∀ j, k ≤ j → j < n → ∀ u, xs[j]? = some (u, entA ps j) → Own .i64 3 w lo u (entA ps j).lights → ∀ g', u.ownBlock = some g' → some g ≠ some g') (hcs : ∀ j, k ≤ j → j < n → cs'[j * 3 + 1]? = cs[j * 3 + 1]?) : RestE w' lo k n xs ps cs' := by
  intro j hj hn
  obtain ⟨u, h1, h2, h3⟩ := h j hj hn
  exact ⟨u, h1, (hcs j hj hn).trans h2, h3.grown hg (fun g' hg' => hne j hj hn u h1 h3 g' hg')⟩
set_option maxHeartbeats 1000000 in
set_option maxRecDepth 100000 in
theorem marked_ent (A : Option Addr) (n c lo hi s : Nat) (xs : List (Value × Ent)) (ps : List Ent) (w : World) (h : OwEnt w lo hi (.slice A n c) xs ps) (hlu : ∀ x ∈ xs, ∀ g, x.1.ownBlock = some g → g < hi) (hz : SmallEnt ps) (hs : s ≤ 2199023255552) :
    Calls Try.prog 29 #[.slice A n c, .int .i64 s] w fun e w' => e = .returned (.int .i64 ((s + totE ps n : Nat) : Int)) ∧ Part lo hi w w' := by
  have hl : ps.length = n := (ownr_len h.own.row).symm
  have hz1 := hz.1
  have hrow0 : w.ownsRow lo 91 3 (.slice A n c) n (entrow xs) := by have := h.own.row; rw [hl] at this; exact this
  have hrest0 : RestE w lo 0 n xs ps (entrow xs) := fun j _ hj => by
    obtain ⟨u, h1, h2⟩ := h.own.each j (by omega)
    exact ⟨u, h1, entrow_at1 h1, h2⟩
  have HAP := Lib.hid h.own.apart
  have HLT := Lib.hid h.lt
  have HTOP := Lib.hid h.top
  have HLU := Lib.hid hlu
  have HZ := Lib.hid hz
  clear h hlu hz
  go_enter Try.func29, Try.ntmps29
  go_wp2
  go_loopw [1, 5] (fun x i wr => ∃ (k q : Nat) (cs : List Value), k ≤ n ∧ i = .int .i64 k ∧ x = .int .i64 (q : Int) ∧ q = s + totE ps k ∧ wr.ownsRow lo 91 3 (.slice A n c) n cs ∧ RestE wr lo k n xs ps cs ∧ Part lo hi w wr) (fun _ i _ => n - (intOf i).toNat)
  case atStart => exact ⟨0, s, _, Nat.zero_le _, rfl, rfl, by rw [totE_zero]; rfl, hrow0, hrest0, ⟨rfl, rfl, rfl, Nat.le_refl _, fun _ _ _ => rfl⟩⟩
  case round =>
    clear hrow0 hrest0
    obtain ⟨k, q, cs, hk, rfl, rfl, hq, hrow, hrest, hp⟩ := hrel
    have HQ := Lib.hid hq
    clear hq
    by_cases hlt : k < n
    · obtain ⟨u, hu, hcu, hown⟩ := hrest k (Nat.le_refl _) hlt
      obtain ⟨zs, hzs⟩ : ∃ zs, (entA ps k).lights = zs := ⟨_, rfl⟩
      rw [hzs] at hown
      have hlen := HZ.out.2 k (by omega)
      rw [hzs] at hlen
      have htt := totE_top HZ.out (k := k) (by omega)
      have hts := totE_succ (ps := ps) (k := k) (by omega)
      rw [hzs] at hts
      have hqb : q ≤ 4398046511104 := by have := HQ.out; omega
      have HQ2 : Hid (q + 1 + zs.length + 1 = s + totE ps (k + 1)) := Lib.hid (by have := HQ.out; omega)
      clear hts htt hzs
      obtain ⟨A', c', rfl⟩ := hown.sliced
      rcases ownr_shape hrow with ⟨e, he⟩ | ⟨g, cap, e, hg, hgs, _⟩
      · exfalso; omega
      injection e with e1 e2 e3
      clear e2 e3
      obtain rfl := e1
      have hglt := HLT.out g rfl
      have hf := World.ownsRow.frozenAt hrow (k * 3)
      obtain ⟨x0, hx0⟩ := ownr_some hrow (j := k * 3) (by omega)
      obtain ⟨w1, hw1⟩ : ∃ w1, w1 = wr.setCell ⟨g, k * 3, none⟩ (.int .i64 (q : Int)) := ⟨_, rfl⟩
      obtain ⟨hrow1, hg1⟩ := World.ownsRow.stored hrow (k * 3) (.int .i64 (q : Int))
      rw [← hw1] at hrow1 hg1
      have q1 : w1.cell? ⟨g, k * 3 + 1, none⟩ = some (.slice A' zs.length c') := (World.ownsRow.cellAt hrow1 (k * 3 + 1) (by omega)).trans (by rw [List.getElem?_set_ne (by omega)]; exact hcu)
      have hown1 := hown.grown hg1 (fun g' hg' e => own_apart_ent hown hrow g' hg' e)
      have hrest1 : RestE w1 lo k n xs ps (cs.set (k * 3) (.int .i64 (q : Int))) := hrest.grown hg1 (fun j _ _ u _ ho g' hg' e => own_apart_ent ho hrow g' hg' e) (fun j _ _ => List.getElem?_set_ne (by omega))
      have hcc := mark_i64 A' _ c' lo (q + 1) zs w1 hown1 (by omega) (by omega)
      have q2 := q1
      rw [hw1] at q1
      have HP := Lib.hid hp
      have HU := Lib.hid hu
      have HROW1 := Lib.hid hrow1
      have HREST1 := Lib.hid hrest1
      have HG1 := Lib.hid hg1
      have HOWN := Lib.hid hown1
      clear hp hu hrow hrow1 hg1 hrest hrest1 hown hown1 hcu
      go_wp2_with fail
      rw [← hw1]
      refine hcc.mono ?_
      rintro e w3 ⟨rfl, ho3, hg3⟩
      clear q1 q2 hf hx0
      have hrow3 := ownr_grown HROW1.out hg3 (fun g hg e => own_apart_ent HOWN.out HROW1.out g e hg)
      have hf := World.ownsRow.frozenAt hrow3 (k * 3 + 2)
      obtain ⟨x1, hx1⟩ := ownr_some hrow3 (j := k * 3 + 2) (by omega)
      obtain ⟨hrow4, hg4⟩ := World.ownsRow.stored hrow3 (k * 3 + 2) (.int .i64 ((q + 1 + zs.length : Nat) : Int))
      have HREST : Hid (RestE (w3.setCell ⟨g, k * 3 + 2, none⟩ (.int .i64 ((q + 1 + zs.length : Nat) : Int))) lo (k + 1) n xs ps ((cs.set (k * 3) (.int .i64 (q : Int))).set (k * 3 + 2) (.int .i64 ((q + 1 + zs.length : Nat) : Int)))) := Lib.hid fun j hj hn => by
        obtain ⟨u, h1, h2, h3⟩ := HREST1.out j (by omega) hn
        refine ⟨u, h1, (List.getElem?_set_ne (by omega)).trans h2, ?_⟩
        have h4 := h3.grown hg3 (fun g' hg' e => by
          have f1 : (xs.map (·.1))[j]? = some u := by rw [List.getElem?_map, h1]; rfl
          have f2 : (xs.map (·.1))[k]? = some (.slice A' zs.length c') := by rw [List.getElem?_map, HU.out]; rfl
          exact HAP.out j k _ _ (by omega) f1 f2 g' hg' e)
        exact h4.grown hg4 (fun g' hg' e => own_apart_ent h4 hrow3 g' hg' e)
      have HP4 : Hid (Part lo hi w (w3.setCell ⟨g, k * 3 + 2, none⟩ (.int .i64 ((q + 1 + zs.length : Nat) : Int)))) := by
        have hp := HP.out
        have hg1 := HG1.out
        refine Lib.hid ⟨hg4.os.trans (hg3.os.trans (hg1.os.trans hp.os)), hg4.tape.trans (hg3.tape.trans (hg1.tape.trans hp.tape)), hg4.output.trans (hg3.output.trans (hg1.output.trans hp.output)), Nat.le_trans hp.size (Nat.le_trans hg1.size (Nat.le_trans hg3.size hg4.size)), fun i hi' hd => ?_⟩
        have s1 := Nat.lt_of_lt_of_le hi' hp.size
        have s2 := Nat.lt_of_lt_of_le s1 hg1.size
        have s3 := Nat.lt_of_lt_of_le s2 hg3.size
        have b4 := hg4.block i s3 (fun e => by
          have e' : i = g := Option.some.inj e
          omega)
        have b3 := hg3.block i s2 (fun e => by
          have t1 := HLU.out _ (List.mem_of_getElem? HU.out) i e.symm
          have t2 := (ownr_block HOWN.out i e.symm).1
          omega)
        have b1 := hg1.block i s1 (fun e => by
          have e' : i = g := Option.some.inj e
          omega)
        exact b4.trans (b3.trans (b1.trans (hp.block i hi' hd)))
      have HROW4 := Lib.hid hrow4
      have hq2b : q + 1 + zs.length ≤ 8796093022208 := by omega
      generalize q + 1 + zs.length = q2 at *
      clear hrow3 hrow4 hg3 hg4 ho3 hcc hw1 HP HU HROW1 HREST1 HG1 HOWN HAP
      go_wp2
      go_roundw
      case rel => exact ⟨k + 1, q2 + 1, _, by omega, by go_num, by go_num, HQ2.out, HROW4.out, HREST.out, HP4.out⟩
      case measure => simp [intOf]; omega
    · obtain rfl : k = n := by omega
      have HP := Lib.hid hp
      clear hp
      go_wp2
      go_ret
      exact ⟨by first | (rw [← HQ.out]; rfl) | (rw [show ((s : Int) + (totE ps k : Int)) = ((q : Nat) : Int) by rw [HQ.out]; simp]; rfl), HP.out⟩
end Go.Proofs.Ytblilnfkpfjclaa

/- ShownAt as its exact law meets it. -/
namespace Go.Proofs.Ytblilnfkpfjclaa
open Go.RowKit
set_option linter.unusedVariables false

theorem shownA_short {zs : List Ent} (s : Int) (hs : SmallEnt zs) : (shownA zs s).1.length ≤ 1048576 := by
  obtain ⟨b1, b2⟩ := atE_bound zs s
  unfold shownA
  split
  · simp
  · exact hs.2 _ (by omega)
theorem sp_ShownAt (A0 : Option Addr) (n0 c0 : Nat) (zs0 : List Ent) (a1 : Int) (w : World) (h0 : SlEnt w A0 n0 c0 zs0) (hs0 : SmallEnt zs0) (wa1 : (Lit.int .i64 a1).wf = true) (r0 : List Int) (r1 : Bool) (hr : shownA zs0 a1 = (r0, r1)) :
    Calls Try.prog 56 #[.slice A0 n0 c0, .int .i64 a1] w fun e w' => ∃ v, e = .returned (.tuple #[v, .bool r1]) ∧ Own .i64 3 w' w.heap.size v r0 ∧ Below w.heap.size w w' ∧ r0.length ≤ 1048576 := by
  obtain rfl : (shownA zs0 a1).1 = r0 := by rw [hr]
  obtain rfl : (shownA zs0 a1).2 = r1 := by rw [hr]
  have hq0 := h0.pths.1
  have hz0 := hs0.1
  exact (spec_ShownAt A0 n0 c0 _ zs0 a1 w h0.pths (Nat.le_refl _) (by omega) (fun j hj => hs0.2 j (by omega))).mono fun e w' ⟨v, h1, h2, h3⟩ => ⟨v, h1, h2, h3, shownA_short a1 hs0⟩
theorem im_ShownAt (A0 : Option Addr) (n0 c0 : Nat) (zs0 : List Ent) (a1 : Int) (w : World) (h0 : SlEnt w A0 n0 c0 zs0) (hs0 : SmallEnt zs0) (wa1 : (Lit.int .i64 a1).wf = true) (r0 : List Int) (r1 : Bool) (hr : shownA zs0 a1 = (r0, r1)) :
    Calls Try.prog 57 #[.slice A0 n0 c0, .int .i64 a1] w fun e w' => ∃ v, e = .returned (.tuple #[v, .bool r1]) ∧ Own .i64 3 w' w.heap.size v r0 ∧ Below w.heap.size w w' ∧ r0.length ≤ 1048576 := by
  obtain rfl : (shownA zs0 a1).1 = r0 := by rw [hr]
  obtain rfl : (shownA zs0 a1).2 = r1 := by rw [hr]
  have hq0 := h0.pths.1
  have hz0 := hs0.1
  exact (impl_ShownAt A0 n0 c0 _ zs0 a1 w h0.pths (Nat.le_refl _) (by omega) (fun j hj => hs0.2 j (by omega))).mono fun e w' ⟨v, h1, h2, h3⟩ => ⟨v, h1, h2, h3, shownA_short a1 hs0⟩
end Go.Proofs.Ytblilnfkpfjclaa
