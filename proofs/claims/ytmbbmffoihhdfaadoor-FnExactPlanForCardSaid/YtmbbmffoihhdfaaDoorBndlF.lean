/- Texts of one chain, put together: Bls Opn LawOpn. -/
import Derived.Test.YtmbbmffoihhdfaaDoorBndlE
set_option linter.unusedSimpArgs false
/- Rows of bools; the laws' helpers for these. -/
namespace Go.Proofs.YtmbbmffoihhdfaaDoor
open Go.RowKit
set_option linter.unusedVariables false

def bAt (bs : List Bool) (j : Nat) : Bool := bs.getD j false
theorem bAt_get {bs : List Bool} {j : Nat} (h : j < bs.length) : bs[j]? = some (bAt bs j) := by
  rw [List.getElem?_eq_getElem h]
  simp [bAt, List.getD, List.getElem?_eq_getElem h]
/-- A slice value that holds these bools, in a block below B. -/
def BlsAt (w : World) (B : Nat) (A : Option Addr) (n : Nat) (bs : List Bool) : Prop :=
  bs.length = n ∧ (0 < n → ∃ ad, A = some ad ∧ ad.block < B ∧ ∀ j, j < n → w.cell? (ad.add j) = some (.bool (bAt bs j)))
theorem BlsAt.keep {w w' : World} {B : Nat} {A : Option Addr} {n : Nat} {bs : List Bool} (h : BlsAt w B A n bs) (hb : Below B w w') : BlsAt w' B A n bs :=
  ⟨h.1, fun h0 => by
    obtain ⟨ad, e, hB, hc⟩ := h.2 h0
    exact ⟨ad, e, hB, fun j hj => (hb.cell (by rw [add_block]; exact hB)).trans (hc j hj)⟩⟩
theorem BlsAt.up {w : World} {B B' : Nat} {A : Option Addr} {n : Nat} {bs : List Bool} (h : BlsAt w B A n bs) (hB : B ≤ B') : BlsAt w B' A n bs :=
  ⟨h.1, fun h0 => by
    obtain ⟨ad, e, hb, hc⟩ := h.2 h0
    exact ⟨ad, e, by omega, hc⟩⟩
theorem set_prefixB {zs ys : List Bool} {j : Nat} {x : Bool} (h : j < zs.length) (hx : ys[j]? = some x) : (ys.take j ++ zs.drop j).set j x = ys.take (j + 1) ++ zs.drop (j + 1) := by
  have hj := (List.getElem?_eq_some_iff.1 hx).1
  have hl : (ys.take j).length = j := by rw [List.length_take]; omega
  rw [List.set_append_right _ _ (by omega), hl, Nat.sub_self, List.drop_eq_getElem_cons h, List.set_cons_zero, List.take_add_one, hx]
  simp
theorem made_bls (n : Nat) : (madeCells (Value.bool false).cells (n * 1)).toList = (List.replicate n false).map Value.bool := by
  simp only [madeCells, Value.cells]
  apply List.ext_getElem?
  intro i
  simp only [Array.toList_map, List.getElem?_map, Nat.mul_one]
  by_cases h : i < n
  · simp [h, Nat.mod_one]
  · simp [h]
/-- a row of bools of the call's own. -/
def OwnB (E : TypeId) (w : World) (lo : Nat) (v : Value) (bs : List Bool) : Prop := w.ownsRow lo E 1 v bs.length (bs.map Value.bool)
theorem OwnB.bls {E : TypeId} {w : World} {lo : Nat} {A : Option Addr} {n c : Nat} {bs : List Bool} (h : OwnB E w lo (.slice A n c) bs) : BlsAt w w.heap.size A n bs := by
  have hn := ownr_len h
  subst hn
  refine ⟨rfl, fun h0 => ?_⟩
  obtain ⟨ad, e, hb, hc⟩ := (ownr_cells h).2 (by omega)
  refine ⟨ad, e, hb, fun j hj => hc j _ ?_⟩
  rw [List.getElem?_map, bAt_get hj]
  rfl
theorem OwnB.below {E : TypeId} {w w' : World} {lo : Nat} {v : Value} {bs : List Bool} (h : OwnB E w lo v bs) (hb : Below w.heap.size w w') : OwnB E w' lo v bs := ownr_below h hb
theorem OwnB.mono {E : TypeId} {w : World} {lo lo' : Nat} {v : Value} {bs : List Bool} (h : OwnB E w lo v bs) (hl : lo' ≤ lo) : OwnB E w lo' v bs := ownr_mono h hl
theorem OwnB.sliced {E : TypeId} {w : World} {lo : Nat} {v : Value} {bs : List Bool} (h : OwnB E w lo v bs) : ∃ A c, v = .slice A bs.length c := ownr_sliced h
/-- the same between two block numbers. -/
structure OwB (E : TypeId) (w : World) (lo hi : Nat) (v : Value) (bs : List Bool) : Prop where
  own : OwnB E w lo v bs
  lt : ∀ g, v.ownBlock = some g → g < hi
  top : hi ≤ w.heap.size
theorem OwB.new {E : TypeId} {w : World} {lo : Nat} {v : Value} {bs : List Bool} (h : OwnB E w lo v bs) : OwB E w lo w.heap.size v bs := ⟨h, fun g e => (ownr_block h g e).2, Nat.le_refl _⟩
theorem OwB.below {E : TypeId} {w w' : World} {lo hi : Nat} {v : Value} {bs : List Bool} (h : OwB E w lo hi v bs) (hb : Below w.heap.size w w') : OwB E w' lo hi v bs := ⟨h.own.below hb, h.lt, Nat.le_trans h.top hb.size⟩
theorem OwB.ints {E : TypeId} {w : World} {lo hi : Nat} {A : Option Addr} {n c : Nat} {bs : List Bool} (h : OwB E w lo hi (.slice A n c) bs) : BlsAt w w.heap.size A n bs := h.own.bls
theorem OwB.part {E : TypeId} {w w' : World} {lo hi l h' : Nat} {v : Value} {bs : List Bool} (h : OwB E w lo hi v bs) (hp : Part l h' w w') (hd : hi ≤ l ∨ h' ≤ lo) : OwB E w' lo hi v bs := by
  refine ⟨⟨h.own.1, ?_⟩, h.lt, Nat.le_trans h.top hp.size⟩
  rcases h.own.2 with h2 | ⟨g, cap, cur, rfl, hl, hg, r⟩
  · exact .inl h2
  · have hlt := h.lt g rfl
    have htop := h.top
    exact .inr ⟨g, cap, cur, rfl, hl, (hp.block g (by omega) (by omega)).trans hg, r⟩
/-- a slice of bools that a call is given. -/
structure SlB (w : World) (A : Option Addr) (n c : Nat) (bs : List Bool) : Prop where
  bls : BlsAt w w.heap.size A n bs
  bare : A = none → n = 0 ∧ c = 0
  cap : n ≤ c ∧ c ≤ maxLen
theorem OwB.sl {E : TypeId} {w : World} {lo hi : Nat} {A : Option Addr} {n c : Nat} {bs : List Bool} (h : OwB E w lo hi (.slice A n c) bs) : SlB w A n c bs := ⟨h.ints, ownr_nilcap h.own, ownr_cap h.own⟩
theorem SlB.below {w w' : World} {A : Option Addr} {n c : Nat} {bs : List Bool} (h : SlB w A n c bs) (hb : Below w.heap.size w w') : SlB w' A n c bs := ⟨(h.bls.keep hb).up hb.size, h.bare, h.cap⟩
/-- the laws' marks of bools. -/
def marksB (s : Nat) (n : Nat) : List Bool := (List.range n).map fun j => decide ((s + j) % 3 = 0)
theorem marksB_length (s n : Nat) : (marksB s n).length = n := by simp [marksB]
theorem marksB_get {s n j : Nat} (h : j < n) : (marksB s n)[j]? = some (decide ((s + j) % 3 = 0)) := by simp [marksB, h]
theorem tmod_three (m : Nat) : (((m : Nat) : Int).tmod 3 == 0) = decide (m % 3 = 0) := by
  have e : ((m : Nat) : Int).tmod 3 = ((m % 3 : Nat) : Int) := by rw [Int.tmod_eq_emod_of_nonneg (by omega)]; omega
  rw [e]
  by_cases h : m % 3 = 0
  · simp [h]
  · rw [decide_eq_false h]
    rw [beq_eq_false_iff_ne]
    omega
theorem eqs_bls (A : Option Addr) (n c : Nat) (bs : List Bool) (A2 : Option Addr) (n2 c2 : Nat) (w : World) (h : BlsAt w w.heap.size A n bs) (h2 : BlsAt w w.heap.size A2 n2 bs) (hn : n ≤ 1048576) (hn2 : n2 ≤ 1048576) :
    Calls Tryd.prog 47 #[.slice A n c, .slice A2 n2 c2] w fun e w' => e = .returned (.bool true) ∧ Below w.heap.size w w' := by
  have hl := h.1
  have hl2 := h2.1
  obtain rfl : n = n2 := by omega
  go_enter Tryd.func47, Tryd.ntmps47
  go_wp2
  go_loopw [5] (fun i wr => ∃ k : Nat, k ≤ n ∧ i = .int .i64 k ∧ Below w.heap.size w wr ∧ wr.heap = w.heap) (fun i _ => n - (intOf i).toNat)
  case atStart => exact ⟨0, Nat.zero_le _, rfl, Below.refl _ _, rfl⟩
  case round =>
    obtain ⟨k, hk, rfl, hbl, hheap⟩ := hrel
    by_cases hlt : k < n
    · obtain ⟨ad, rfl, hab, hcell⟩ := h.2 (by omega)
      obtain ⟨ad2, rfl, hab2, hcell2⟩ := h2.2 (by omega)
      have hc : wr.cell? (ad.add k) = _ := (World.cell?_of_block (by rw [hheap])).trans (hcell k hlt)
      have hc2 : wr.cell? (ad2.add k) = _ := (World.cell?_of_block (by rw [hheap])).trans (hcell2 k hlt)
      have HH := Lib.hid hheap
      clear hcell hcell2 hheap
      generalize bAt bs k = z at *
      have e1 : (z != z) = false := by simp
      have e2 : (!(z == z)) = false := by simp
      go_wp2
      go_quiet (fail)
      go_wp2
      go_roundw
      case rel => exact ⟨k + 1, by omega, by go_num, belowN hbl _, HH.out⟩
      case measure => simp [intOf]; omega
    · obtain rfl : k = n := by omega
      go_wp2
      go_ret
      exact ⟨rfl, hbl⟩
theorem marked_bls (A : Option Addr) (n c lo hi s : Nat) (bs : List Bool) (w : World) (h : OwB 4 w lo hi (.slice A n c) bs) (hn : n ≤ 1048576) (hs : s ≤ 70368744177664) :
    Calls Tryd.prog 48 #[.slice A n c, .int .i64 s] w fun e w' => e = .returned (.int .i64 ((s + n : Nat) : Int)) ∧ OwB 4 w' lo hi (.slice A n c) (marksB s n) ∧ Part lo hi w w' := by
  have hl : n = bs.length := ownr_len h.own
  have hrow : w.ownsRow lo 4 1 (.slice A n c) n (bs.map Value.bool) := by rw [show n = bs.length from hl]; have := h.own; unfold OwnB at this; rw [← hl] at this ⊢; exact this
  have HL := Lib.hid hl
  clear hl
  suffices H : Calls Tryd.prog 48 #[.slice A n c, .int .i64 s] w fun e w' => e = .returned (.int .i64 ((s + n : Nat) : Int)) ∧ w'.ownsRow lo 4 1 (.slice A n c) n ((marksB s n).map Value.bool) ∧ w.grownBy w' (Value.ownBlock (.slice A n c)) by
    refine H.mono fun e w' ⟨he, ho, hg⟩ => ⟨he, ⟨by unfold OwnB; rw [marksB_length]; exact ho, h.lt, Nat.le_trans h.top hg.size⟩, ⟨hg.os, hg.tape, hg.output, hg.size, fun i hi' hd => hg.block i hi' fun e => ?_⟩⟩
    have h1 := h.lt i e.symm
    have h2 := (ownr_block h.own i e.symm).1
    omega
  go_enter Tryd.func48, Tryd.ntmps48
  go_wp2
  go_loopw [1, 5] (fun x i wr => ∃ k : Nat, k ≤ n ∧ i = .int .i64 k ∧ x = .int .i64 ((s + k : Nat) : Int) ∧ wr.ownsRow lo 4 1 (.slice A n c) n (((marksB s n).take k ++ bs.drop k).map Value.bool) ∧ w.grownBy wr (Value.ownBlock (.slice A n c))) (fun _ i _ => n - (intOf i).toNat)
  case atStart => exact ⟨0, Nat.zero_le _, rfl, rfl, by simpa using hrow, World.grownBy.refl _ _⟩
  case round =>
    clear hrow h
    obtain ⟨k, hk, rfl, rfl, hown, hbl⟩ := hrel
    by_cases hlt : k < n
    · rcases ownr_shape hown with ⟨e, he⟩ | ⟨g, cap, e, hg, hgs, _⟩
      · omega
      injection e with e1 _ e3
      obtain rfl := e1
      obtain ⟨x0, hx0⟩ := ownr_some hown (j := k) (by omega)
      have hf := World.ownsRow.frozenAt hown k
      have hst := (World.ownsRow.stored hown k (.bool (decide ((s + k) % 3 = 0)))).1
      rw [← List.map_set, set_prefixB (by rw [← HL.out]; exact hlt) (marksB_get hlt)] at hst
      have hb := tmod_three (s + k)
      obtain ⟨b, hbb⟩ : ∃ b, b = decide ((s + k) % 3 = 0) := ⟨_, rfl⟩
      rw [← hbb] at hst hb
      rw [show (((s + k : Nat)) : Int) = (s : Int) + (k : Int) by omega] at hb
      have hb2 : (((s : Int) + (k : Int)) % 3 == 0) = b := by rw [← hb, Int.tmod_eq_emod_of_nonneg (by omega)]
      have HS := Lib.hid hst
      have HG := Lib.hid hbl
      clear hown hst hbl hbb
      go_wp2
      go_roundw
      case rel => exact ⟨k + 1, by omega, by go_num, by go_num, HS.out, only_setCell HG.out _ _⟩
      case measure => simp [intOf]; omega
    · obtain rfl : k = n := by omega
      rw [List.take_of_length_le (by rw [marksB_length]; exact Nat.le_refl _), List.drop_of_length_le (by rw [← HL.out]; exact Nat.le_refl _), List.append_nil] at hown
      have HO := Lib.hid hown
      clear hown
      go_wp2
      go_ret
      exact ⟨rfl, HO.out, hbl⟩
theorem held_bls (A : Option Addr) (n c s : Nat) (w : World) (h : BlsAt w w.heap.size A n (marksB s n)) (hn : n ≤ 1048576) (hs : s ≤ 70368744177664) :
    Calls Tryd.prog 49 #[.slice A n c, .int .i64 s] w fun e w' => e = .returned (.int .i64 ((s + n : Nat) : Int)) ∧ Below w.heap.size w w' := by
  go_enter Tryd.func49, Tryd.ntmps49
  go_wp2
  go_loopw [1, 5] (fun x i wr => ∃ k : Nat, k ≤ n ∧ i = .int .i64 k ∧ x = .int .i64 ((s + k : Nat) : Int) ∧ Below w.heap.size w wr ∧ wr.heap = w.heap) (fun _ i _ => n - (intOf i).toNat)
  case atStart => exact ⟨0, Nat.zero_le _, rfl, rfl, Below.refl _ _, rfl⟩
  case round =>
    obtain ⟨k, hk, rfl, rfl, hbl, hheap⟩ := hrel
    by_cases hlt : k < n
    · obtain ⟨ad, rfl, hab, hcell⟩ := h.2 (by omega)
      have hc : wr.cell? (ad.add k) = _ := (World.cell?_of_block (by rw [hheap])).trans (hcell k hlt)
      have hbm : bAt (marksB s n) k = decide ((s + k) % 3 = 0) := by
        have h1 := bAt_get (bs := marksB s n) (j := k) (by rw [marksB_length]; exact hlt)
        rw [marksB_get hlt] at h1
        exact (Option.some.inj h1).symm
      rw [hbm] at hc
      have hb := tmod_three (s + k)
      obtain ⟨b, hbb⟩ : ∃ b, b = decide ((s + k) % 3 = 0) := ⟨_, rfl⟩
      rw [← hbb] at hc hb
      rw [show (((s + k : Nat)) : Int) = (s : Int) + (k : Int) by omega] at hb
      have e1 : (b != (((s : Int) + (k : Int)).tmod 3 == 0)) = false := by rw [hb]; simp
      have e2 : (!(b == (((s : Int) + (k : Int)).tmod 3 == 0))) = false := by rw [hb]; simp
      have hb2 : (((s : Int) + (k : Int)) % 3 == 0) = b := by rw [← hb, Int.tmod_eq_emod_of_nonneg (by omega)]
      have e3 : (!(b == (((s : Int) + (k : Int)) % 3 == 0))) = false := by rw [hb2]; simp
      have e4 : (b == (((s : Int) + (k : Int)) % 3 == 0)) = true := by rw [hb2]; simp
      have e5 : (b != (((s : Int) + (k : Int)) % 3 == 0)) = false := by rw [hb2]; simp
      clear hb2 hb
      have HH := Lib.hid hheap
      clear hcell hheap hbm hbb
      go_wp2
      go_roundw
      case rel => exact ⟨k + 1, by omega, by go_num, by go_num, hbl, HH.out⟩
      case measure => simp [intOf]; omega
    · obtain rfl : k = n := by omega
      go_wp2
      go_ret
      exact ⟨rfl, hbl⟩
end Go.Proofs.YtmbbmffoihhdfaaDoor

/- OpenIn: the model and the program. -/
namespace Go.Proofs.YtmbbmffoihhdfaaDoor
open Go.RowKit
set_option linter.unusedVariables false

/-- what OpenIn answers. -/
def opnAt (r : List Int) (f i : Nat) : Bool := decide (r.getD ((f + i) % r.length) 0 = 1)
def openP (ps : List Pth) (p : List Prt) (id f s : Int) : List Bool :=
  if isPlan ps p && (findK id ps).isSome && inB f 0 100000 && inB s 0 1000 then (List.range s.toNat).map (opnAt (rowP ps p id) f.toNat) else []
theorem openP_len (ps : List Pth) (p : List Prt) (id f s : Int) : (openP ps p id f s).length ≤ 1000 := by
  unfold openP
  split
  · rename_i h
    rw [Bool.and_eq_true] at h
    have := inB_t h.2
    simp only [List.length_map, List.length_range]
    omega
  · simp
theorem openP_off {ps : List Pth} {p : List Prt} {id f s : Int} (h : (isPlan ps p && (findK id ps).isSome && inB f 0 100000 && inB s 0 1000) = false) : openP ps p id f s = [] := by unfold openP; rw [h]; rfl
theorem openP_on {ps : List Pth} {p : List Prt} {id : Int} {f s : Nat} (h : (isPlan ps p && (findK id ps).isSome) = true) (h2 : inB (f : Int) 0 100000 = true) (h3 : inB (s : Int) 0 1000 = true) : openP ps p id f s = (List.range s).map (opnAt (rowP ps p id) f) := by
  unfold openP
  rw [h, h2, h3]
  rfl
/-- the first k of n answers, and false. -/
def litB (f : Nat → Bool) (n k : Nat) : List Bool := (List.range n).map fun j => if j < k then f j else false
theorem litB_len (f : Nat → Bool) (n k : Nat) : (litB f n k).length = n := by simp [litB]
theorem litB_zero (f : Nat → Bool) (n : Nat) : litB f n 0 = List.replicate n false := by
  unfold litB
  apply List.ext_getElem
  · simp
  · intro k h1 h2
    simp
theorem litB_full (f : Nat → Bool) (n : Nat) : litB f n n = (List.range n).map f := by
  unfold litB
  apply List.ext_getElem
  · simp
  · intro k h1 h2
    have hk : k < n := by simpa using h1
    simp [hk]
theorem litB_set (f : Nat → Bool) {n k : Nat} (hk : k < n) : (litB f n k).set k (f k) = litB f n (k + 1) := by
  unfold litB
  apply List.ext_getElem
  · simp
  · intro j h1 h2
    rw [List.getElem_set]
    by_cases e : k = j
    · subst e
      simp
    · rw [if_neg e]
      simp only [List.getElem_map, List.getElem_range]
      by_cases h3 : j < k
      · rw [if_pos h3, if_pos (by omega)]
      · rw [if_neg h3, if_neg (by omega)]
theorem info_boolR : (Tryd.prog.info? 4).map (fun i => (i.zero, i.size, i.bytes)) = some (some (.bool false), 1, 1) := by kernel_rfl
set_option maxHeartbeats 4000000 in
set_option maxRecDepth 100000 in
theorem impl_OpenIn {w : World} {A : Option Addr} {n c B : Nat} {ps : List Pth} {A2 : Option Addr} {n2 c2 B2 : Nat} {p : List Prt} (I : PlnIn w A n c B ps A2 n2 c2 B2 p) (id f s : Int) :
    Calls Tryd.prog 46 #[.slice A n c, .slice A2 n2 c2, .int .i64 id, .int .i64 f, .int .i64 s] w fun e w' => ∃ v, e = .returned v ∧ OwnB 4 w' w.heap.size v (openP ps p id f s) ∧ Below w.heap.size w w' := by
  have HC := Lib.hid (impl_rowFor I id)
  have hlen := rowP_len (ps := ps) (p := p) id
  have HOF := Lib.hid (fun hh => openP_off (ps := ps) (p := p) (id := id) (f := f) (s := s) hh)
  have hE : ∀ u : World, OwnB 4 (u.alloc (.cells #[] 4)) u.heap.size (.slice (some ⟨u.heap.size, 0, none⟩) 0 0) [] := fun u => own_row0 u _ _
  have HE := Lib.hid hE
  clear hE I
  cases hb : (isPlan ps p && (findK id ps).isSome)
  · have HR := Lib.hid (HOF.out (by rw [hb]; rfl))
    rw [hb] at HC
    clear hb
    go_enter Tryd.func46, Tryd.ntmps46
    go_wp2_with fail
    refine HC.out.mono ?_
    rintro e w1 ⟨v, rfl, -, hb⟩
    have HB := Lib.hid hb
    have HO := Lib.hid ((HE.out w1).mono hb.size)
    clear hb
    go_wp2
    go_ret
    exact ⟨_, rfl, by rw [HR.out]; exact HO.out, HB.out.alloc HB.out.size _⟩
  · obtain ⟨hrl, hr0⟩ := rowP_pos hb
    have HB0 := Lib.hid hb
    rw [hb] at HC
    clear hb hrl
    cases hf : inB f 0 100000
    · have HR := Lib.hid (HOF.out (by rw [HB0.out, hf]; rfl))
      have HF := Lib.hid hf
      clear hf
      go_enter Tryd.func46, Tryd.ntmps46
      go_wp2_with fail
      refine HC.out.mono ?_
      rintro e w1 ⟨v, rfl, -, hb⟩
      have HB := Lib.hid hb
      have HO := Lib.hid ((HE.out w1).mono hb.size)
      clear hb
      go_wp2_with fail
      refine (impl_InRange _ _ _ _).mono ?_
      rw [HF.out]
      rintro e w2 ⟨rfl, rfl⟩
      go_wp2
      go_ret
      exact ⟨_, rfl, by rw [HR.out]; exact HO.out, HB.out.alloc HB.out.size _⟩
    · have hfb := inB_t hf
      obtain ⟨f, rfl⟩ : ∃ g : Nat, f = (g : Int) := ⟨f.toNat, by omega⟩
      cases hs : inB s 0 1000
      · have HR := Lib.hid (HOF.out (by rw [hs, Bool.and_false]))
        have HF := Lib.hid hf
        have HS := Lib.hid hs
        clear hf hs
        go_enter Tryd.func46, Tryd.ntmps46
        go_wp2_with fail
        refine HC.out.mono ?_
        rintro e w1 ⟨v, rfl, -, hb⟩
        have HB := Lib.hid hb
        have HO := Lib.hid ((HE.out w1).mono hb.size)
        clear hb
        go_wp2_with fail
        refine (impl_InRange _ _ _ _).mono ?_
        rw [HF.out]
        rintro e w2 ⟨rfl, rfl⟩
        go_wp2_with fail
        refine (impl_InRange _ _ _ _).mono ?_
        rw [HS.out]
        rintro e w2 ⟨rfl, rfl⟩
        go_wp2
        go_ret
        exact ⟨_, rfl, by rw [HR.out]; exact HO.out, HB.out.alloc HB.out.size _⟩
      · have hsb := inB_t hs
        obtain ⟨s, rfl⟩ : ∃ g : Nat, s = (g : Int) := ⟨s.toNat, by omega⟩
        have HR := Lib.hid (openP_on HB0.out hf hs)
        have HF := Lib.hid hf
        have HS := Lib.hid hs
        clear hf hs
        generalize rowP ps p id = zs at *
        go_enter Tryd.func46, Tryd.ntmps46
        go_wp2_with fail
        refine HC.out.mono ?_
        rintro e w1 ⟨v, rfl, hv, hb⟩
        obtain ⟨Av, cv, rfl⟩ := ownr_sliced hv
        have HIV := Lib.hid (Own.ints (k := .i64) (E := 3) hv)
        have HB := Lib.hid hb
        clear hv hb
        go_wp2_with fail
        refine (impl_InRange _ _ _ _).mono ?_
        rw [HF.out]
        rintro e w2 ⟨rfl, rfl⟩
        go_wp2_with fail
        refine (impl_InRange _ _ _ _).mono ?_
        rw [HS.out]
        rintro e w2 ⟨rfl, rfl⟩
        go_wp2_with ((with_reducible show wpList _ _ _ _ _ _); refine wpList_mkR rfl _ _ _ rfl 4 _ 1 _ Tryd.underlying49 info_boolR (by decide) (s : Int) (s : Int) s rfl rfl rfl rfl (by omega) ?_; intro w2 hown hgrow)
        rw [made_bls] at hown
        have HB2 := Lib.hid (below_grown hgrow)
        have HO2 : Hid (OwnB 4 w2 w1.heap.size (.slice (some ⟨w1.heap.size, 0, none⟩) s s) (litB (opnAt zs f) s 0)) := Lib.hid (by
          unfold OwnB
          rw [litB_zero, List.length_replicate]
          exact hown)
        clear hown hgrow
        go_loopw [39] (fun i wr => ∃ k : Nat, k ≤ s ∧ i = .int .i64 k ∧ OwnB 4 wr w1.heap.size (.slice (some ⟨w1.heap.size, 0, none⟩) s s) (litB (opnAt zs f) s k) ∧ Below w1.heap.size w1 wr) (fun i _ => s - (intOf i).toNat)
        case atStart => exact ⟨0, Nat.zero_le _, rfl, HO2.out, HB2.out⟩
        case round =>
          clear HO2 HB2
          obtain ⟨k, hk, rfl, hown, hbl⟩ := hrel
          have HOW := Lib.hid hown
          have HBL := Lib.hid hbl
          have hsz := hbl.size
          clear hown hbl
          by_cases hlt : k < s
          · have HRA := Lib.hid (impl_rowAt Av _ cv _ zs (f + k) wr (HIV.out.laid (Nat.le_refl _) HBL.out) hr0 (by omega) (by omega))
            have e8 : IntKind.i64.wrap ((f : Int) + (k : Int)) = ((f + k : Nat) : Int) := by rw [IntKind.wrap_i64]; omega
            have HST := Lib.hid (litB_set (opnAt zs f) hlt)
            have HOP : Hid (opnAt zs f k = decide (zs.getD ((f + k) % zs.length) 0 = 1)) := Lib.hid rfl
            have hO4' : wr.ownsRow w1.heap.size 4 1 (.slice (some ⟨w1.heap.size, 0, none⟩) s s) s ((litB (opnAt zs f) s k).map Value.bool) := by
              have := HOW.out
              unfold OwnB at this
              rwa [litB_len] at this
            have hf := World.ownsRow.frozenAt hO4' k
            obtain ⟨x0, hx0⟩ := ownr_some hO4' (j := k) (by omega)
            have i1 : (0 : Int) ≤ (k : Int) := by omega
            have i2 : (k : Int) < (s : Int) := by omega
            have HO5 : Hid (∀ b, opnAt zs f k = b → OwnB 4 (wr.setCell ⟨w1.heap.size, k, none⟩ (.bool b)) w1.heap.size (.slice (some ⟨w1.heap.size, 0, none⟩) s s) (litB (opnAt zs f) s (k + 1))) := Lib.hid (fun b hb => by
              unfold OwnB
              rw [← HST.out, List.map_set, List.length_set, litB_len, hb]
              exact (World.ownsRow.stored hO4' k (.bool b)).1)
            have HB5 := Lib.hid (fun b => HBL.out.setCell (p := ⟨w1.heap.size, k, none⟩) (Nat.le_refl _) (.bool b))
            clear hO4'
            by_cases h1 : zs.getD ((f + k) % zs.length) 0 = 1
            · have e0 : (zs.getD ((f + k) % zs.length) 0 == 1) = true := by rw [h1]; rfl
              have HOK := Lib.hid (HO5.out true (by rw [HOP.out, h1]; rfl))
              clear h1
              generalize zs.getD ((f + k) % zs.length) 0 = z at *
              go_wp2_with fail
              refine HRA.out.mono ?_
              rintro e w3 ⟨rfl, rfl⟩
              go_wp2
              go_roundw
              case rel => exact ⟨k + 1, by omega, by go_num, HOK.out, HB5.out _⟩
              case measure => simp [intOf]; omega
            · have e0 : (zs.getD ((f + k) % zs.length) 0 == 1) = false := by generalize zs.getD ((f + k) % zs.length) 0 = z at h1; simpa using h1
              have HOK := Lib.hid (HO5.out false (by rw [HOP.out]; exact decide_eq_false h1))
              clear h1
              generalize zs.getD ((f + k) % zs.length) 0 = z at *
              go_wp2_with fail
              refine HRA.out.mono ?_
              rintro e w3 ⟨rfl, rfl⟩
              go_wp2
              go_roundw
              case rel => exact ⟨k + 1, by omega, by go_num, HOK.out, HB5.out _⟩
              case measure => simp [intOf]; omega
          · obtain rfl : k = s := by omega
            have HO4 := Lib.hid (HOW.out.mono HB.out.size)
            go_wp2
            go_ret
            exact ⟨_, rfl, by rw [HR.out, ← litB_full]; exact HO4.out, HB.out.trans (HBL.out.mono HB.out.size)⟩
theorem info_boolS : (Tryd.prog.info? 4).map (fun i => (i.zero, i.size, i.bytes)) = some (some (.bool false), 1, 1) := by kernel_rfl
theorem opn_push (r : List Int) (f k : Nat) : (List.range (k + 1)).map (opnAt r f) = (List.range k).map (opnAt r f) ++ [opnAt r f k] := by simp [List.range_succ]
set_option maxHeartbeats 4000000 in
set_option maxRecDepth 100000 in
theorem spec_OpenIn (A : Option Addr) (n c B : Nat) (ps : List Pth) (A2 : Option Addr) (n2 c2 B2 : Nat) (p : List Prt) (id f s : Int) (w : World) (h : PthsAt w B A n ps) (hB : B ≤ w.heap.size) (hn : n ≤ 4294967296) (h2 : PrtsAt w B2 A2 n2 p) (hB2 : B2 ≤ w.heap.size) (hn2 : n2 ≤ 1048576) (hm : ∀ j, j < n2 → (prAt p j).stage.length ≤ 1048576) :
    Calls Tryd.prog 45 #[.slice A n c, .slice A2 n2 c2, .int .i64 id, .int .i64 f, .int .i64 s] w fun e w' => ∃ v, e = .returned v ∧ OwnB 4 w' w.heap.size v (openP ps p id f s) ∧ Below w.heap.size w w' := by
  have hE : OwnB 4 (w.alloc (.cells #[] 4)) w.heap.size (.slice (some ⟨w.heap.size, 0, none⟩) 0 0) [] := own_row0 w _ _
  have hb0 : Below w.heap.size w (w.alloc (.cells #[] 4)) := (Below.refl _ _).alloc (Nat.le_refl _) _
  have HC := Lib.hid (spec_l9Row A n c B ps A2 n2 c2 B2 p id _ (h.below (hb0.mono hB)) (Nat.le_trans hB hb0.size) hn (h2.below hB2 hb0) (Nat.le_trans hB2 hb0.size) hn2 hm)
  have HO0 := Lib.hid hE
  have HB0 := Lib.hid hb0
  have hlen := rowP_len (ps := ps) (p := p) id
  have HOF := Lib.hid (fun hh => openP_off (ps := ps) (p := p) (id := id) (f := f) (s := s) hh)
  clear h h2 hm hB hB2 hn hn2 hE hb0
  cases hb : (isPlan ps p && (findK id ps).isSome)
  · have HR := Lib.hid (HOF.out (by rw [hb]; rfl))
    have hz := rowP_offM hb
    rw [hz] at HC
    clear hb hz hlen
    go_enter Tryd.func45, Tryd.ntmps45
    go_wp2_with fail
    refine HC.out.mono ?_
    rintro e w1 ⟨v, rfl, hv, hb⟩
    obtain ⟨Av, cv, rfl⟩ := hv.sliced
    have HB := Lib.hid (HB0.out.trans (hb.mono HB0.out.size))
    have HO := Lib.hid (HO0.out.below hb)
    clear hb hv
    simp only [List.length_nil]
    go_wp2
    go_ret
    exact ⟨_, rfl, by rw [HR.out]; exact HO.out, HB.out⟩
  · obtain ⟨hrl, hr0⟩ := rowP_pos hb
    have HPB := Lib.hid hb
    have HF0 : Hid (inB f 0 100000 = false → openP ps p id f s = []) := Lib.hid (fun hh => HOF.out (by rw [hh, Bool.and_false, Bool.false_and]))
    have HS0 : Hid (inB s 0 1000 = false → openP ps p id f s = []) := Lib.hid (fun hh => HOF.out (by rw [hh, Bool.and_false]))
    have HON := Lib.hid (fun (f s : Nat) h2 h3 => openP_on (f := f) (s := s) hb h2 h3)
    clear hb hrl HOF
    generalize rowP ps p id = zs at *
    have hr1 : ((zs.length : Int) == 0) = false := by
      have : ¬ (zs.length = 0) := by omega
      simpa using this
    go_enter Tryd.func45, Tryd.ntmps45
    go_wp2_with fail
    refine HC.out.mono ?_
    rintro e w1 ⟨v, rfl, hv, hb⟩
    obtain ⟨Av, cv, rfl⟩ := hv.sliced
    have HB := Lib.hid (HB0.out.trans (hb.mono HB0.out.size))
    have HO := Lib.hid (HO0.out.below hb)
    have hrv := hv.mono (lo' := w.heap.size) (by simp)
    unfold Own at hrv
    clear hb hv
    obtain ⟨m, hm⟩ : ∃ m, m = zs.length := ⟨_, rfl⟩
    have HM := Lib.hid hm
    rw [← hm] at hr0 hr1 hlen hrv ⊢
    have HRV := Lib.hid hrv
    clear hm hrv
    cases hf : inB f 0 100000
    · have HR := Lib.hid (HF0.out hf)
      have HF := Lib.hid hf
      clear hf
      go_wp2_with fail
      refine (spec_l1In _ _ _ _).mono ?_
      rw [HF.out]
      rintro e w2 ⟨rfl, rfl⟩
      go_wp2
      go_ret
      exact ⟨_, rfl, by rw [HR.out]; exact HO.out, HB.out⟩
    · have hfb := inB_t hf
      have HF := Lib.hid hf
      clear hf
      cases hs : inB s 0 1000
      · have HR := Lib.hid (HS0.out hs)
        have HS := Lib.hid hs
        clear hs
        go_wp2_with fail
        refine (spec_l1In _ _ _ _).mono ?_
        rw [HF.out]
        rintro e w2 ⟨rfl, rfl⟩
        go_wp2_with fail
        refine (spec_l1In _ _ _ _).mono ?_
        rw [HS.out]
        rintro e w2 ⟨rfl, rfl⟩
        go_wp2
        go_ret
        exact ⟨_, rfl, by rw [HR.out]; exact HO.out, HB.out⟩
      · have hsb := inB_t hs
        have HS := Lib.hid hs
        clear hs
        go_wp2_with fail
        refine (spec_l1In _ _ _ _).mono ?_
        rw [HF.out]
        rintro e w2 ⟨rfl, rfl⟩
        go_wp2_with fail
        refine (spec_l1In _ _ _ _).mono ?_
        rw [HS.out]
        rintro e w2 ⟨rfl, rfl⟩
        obtain ⟨s, rfl⟩ : ∃ g : Nat, s = (g : Int) := ⟨s.toNat, by omega⟩
        obtain ⟨f, rfl⟩ : ∃ g : Nat, f = (g : Int) := ⟨f.toNat, by omega⟩
        have HR := Lib.hid (HON.out f s HF.out HS.out)
        go_wp2
        go_loopw [11, 13] (fun v i wr => ∃ k : Nat, k ≤ s ∧ i = .int .i64 k ∧ OwnB 4 wr w.heap.size v ((List.range k).map (opnAt zs f)) ∧ wr.ownsRow w.heap.size 3 1 (.slice Av m cv) m (zs.map (Value.int .i64)) ∧ Below w.heap.size w wr) (fun _ i _ => s - (intOf i).toNat)
        case atStart => exact ⟨0, Nat.zero_le _, rfl, HO.out, HRV.out, HB.out⟩
        case round =>
          obtain ⟨k, hk, rfl, hown, hbl1, hbl⟩ := hrel
          have HOW := Lib.hid hown
          have HB1 := Lib.hid hbl1
          have HBL := Lib.hid hbl
          have hsz := hbl.size
          clear hown hbl1 hbl
          by_cases hlt : k < s
          · have hiv : IntsAt .i64 wr wr.heap.size Av m zs := Own.ints (E := 3) (lo := w.heap.size) (c := cv) (by unfold Own; rw [← HM.out]; exact HB1.out)
            obtain ⟨ad, rfl, hab, hcell⟩ := hiv.2 (by omega)
            have hc := hcell ((f + k) % m) (Nat.mod_lt _ hr0)
            have e8 : IntKind.i64.wrap ((f : Int) + (k : Int)) = (f : Int) + (k : Int) := by rw [IntKind.wrap_i64]; omega
            have em : ((f : Int) + (k : Int)).tmod (m : Int) = (((f + k) % m : Nat) : Int) := by rw [Int.tmod_eq_emod_of_nonneg (by omega), Int.natCast_emod, Int.natCast_add]
            have z1 : ¬ m = 0 := by omega
            have z2 : ¬ (m : Int) = 0 := by omega
            have hltm : (f + k) % m < m := Nat.mod_lt _ hr0
            have HPU := Lib.hid (opn_push zs f k)
            have hop : opnAt zs f k = decide (zs.getD ((f + k) % m) 0 = 1) := by unfold opnAt; rw [← HM.out]
            have hbq : (zs.getD ((f + k) % m) 0 == 1) = opnAt zs f k := by rw [hop]; rfl
            have hrl : ((List.range k).map (opnAt zs f)).length = k := by simp
            have HW := Lib.hid HOW.out
            clear hcell hop hiv
            generalize zs.getD ((f + k) % m) 0 = z at *
            generalize (f + k) % m = y at *
            generalize opnAt zs f k = b at *
            have i1 : (0 : Int) ≤ (y : Int) := by omega
            have i2 : (y : Int) < (m : Int) := by omega
            have hW2 := HW.out
            unfold OwnB at hW2
            rw [hrl] at hW2
            have HWW := Lib.hid hW2
            clear hW2 hrl
            go_wp2_with (at_builtin; refine wpList_appR1 rfl _ _ 49 rfl 4 (.bool false) 1 1 Tryd.underlying49 info_boolS rfl (by decide) (by decide) w.heap.size _ _ _ rfl HWW.out (by omega) [.bool b] rfl (by simp [Value.oneCell']) _ _ wr.heap.size hsz rfl (by simp) ?_; intro v4 w4 hown4 hgrow4 hat4)
            have hB4 := Lib.hid (ownr_push HWW.out (Nat.le_refl w.heap.size) (HBL.out.alloc hsz _) (by simp; omega) hgrow4)
            have hR4 := Lib.hid (ownr_grown (ownr_below HB1.out ((Below.refl wr.heap.size wr).alloc (Nat.le_refl _) _)) hgrow4 (fun q e h' => apart_types HB1.out HWW.out (by decide) q e h'))
            have hO4 : Hid (OwnB 4 w4 w.heap.size v4 ((List.range (k + 1)).map (opnAt zs f))) := Lib.hid (by
              unfold OwnB
              rw [HPU.out]
              simp only [List.length_append, List.length_map, List.length_range, List.length_cons, List.length_nil, List.map_append, List.map_cons, List.map_nil]
              simpa using hown4)
            clear hgrow4 hat4 hown4
            go_roundw
            case rel => exact ⟨k + 1, by omega, by go_num, hO4.out, hR4.out, hB4.out⟩
            case measure => simp [intOf]; omega
          · obtain rfl : k = s := by omega
            go_wp2
            go_ret
            exact ⟨_, rfl, by rw [HR.out]; exact HOW.out, HBL.out⟩
end Go.Proofs.YtmbbmffoihhdfaaDoor

/- OpenIn as its exact law meets it. -/
namespace Go.Proofs.YtmbbmffoihhdfaaDoor
open Go.RowKit
set_option linter.unusedVariables false

theorem sp_OpenIn (A0 : Option Addr) (n0 c0 : Nat) (zs0 : List Pth) (A1 : Option Addr) (n1 c1 : Nat) (zs1 : List Prt) (a2 : Int) (a3 : Int) (a4 : Int) (w : World) (h0 : SlP w A0 n0 c0 zs0) (hs0 : n0 ≤ 1048576) (h1 : SlQ w A1 n1 c1 zs1) (hs1 : SmallP zs1) (wa2 : (Lit.int .i64 a2).wf = true) (wa3 : (Lit.int .i64 a3).wf = true) (wa4 : (Lit.int .i64 a4).wf = true) (r : List Bool) (hr : openP zs0 zs1 a2 a3 a4 = r) :
    Calls Tryd.prog 45 #[.slice A0 n0 c0, .slice A1 n1 c1, .int .i64 a2, .int .i64 a3, .int .i64 a4] w fun e w' => ∃ v, e = .returned v ∧ OwnB 4 w' w.heap.size v r ∧ Below w.heap.size w w' ∧ r.length ≤ 1048576 := by
  subst hr
  have hq1 := h1.prts.1
  have hz1 := hs1.1
  refine (spec_OpenIn A0 n0 c0 _ zs0 A1 n1 c1 _ zs1 a2 a3 a4 w h0.pths (Nat.le_refl _) (by omega) h1.prts (Nat.le_refl _) (by omega) (hs1.at _ _ hq1.symm (Nat.le_refl _))).mono fun e w' ⟨v, h1, h2, h3⟩ => ⟨v, h1, h2, h3, ?_⟩
  have := openP_len zs0 zs1 a2 a3 a4
  omega
theorem im_OpenIn (A0 : Option Addr) (n0 c0 : Nat) (zs0 : List Pth) (A1 : Option Addr) (n1 c1 : Nat) (zs1 : List Prt) (a2 : Int) (a3 : Int) (a4 : Int) (w : World) (h0 : SlP w A0 n0 c0 zs0) (hs0 : n0 ≤ 1048576) (h1 : SlQ w A1 n1 c1 zs1) (hs1 : SmallP zs1) (wa2 : (Lit.int .i64 a2).wf = true) (wa3 : (Lit.int .i64 a3).wf = true) (wa4 : (Lit.int .i64 a4).wf = true) (hv0 : Brus w) (hv1 : Clrs w) (r : List Bool) (hr : openP zs0 zs1 a2 a3 a4 = r) :
    Calls Tryd.prog 46 #[.slice A0 n0 c0, .slice A1 n1 c1, .int .i64 a2, .int .i64 a3, .int .i64 a4] w fun e w' => ∃ v, e = .returned v ∧ OwnB 4 w' w.heap.size v r ∧ Below w.heap.size w w' ∧ r.length ≤ 1048576 := by
  subst hr
  have hq1 := h1.prts.1
  have hz1 := hs1.1
  refine (impl_OpenIn ⟨h0.pths, Nat.le_refl _, h0.cap, by omega, h1.prts, Nat.le_refl _, by omega, hs1.at _ _ hq1.symm (Nat.le_refl _), hv0, hv1⟩ a2 a3 a4).mono fun e w' ⟨v, h1, h2, h3⟩ => ⟨v, h1, h2, h3, ?_⟩
  have := openP_len zs0 zs1 a2 a3 a4
  omega
end Go.Proofs.YtmbbmffoihhdfaaDoor
