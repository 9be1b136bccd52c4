/- Chapter 24: ballots (how often each vote was given, as a map); CountVotes, IsTurn: program and model. -/
import Derived.Test.YtdlcjmdkafebpaaTrn
import Derived.Test.YtdlcjmdkafebpaaTur
import Derived.Deep.RegionHeld3
import Derived.WalkKit
import Derived.Maps.Own
import Derived.Maps.OwnOps
import Derived.Maps.OwnSet
import Derived.Maps.Views
namespace Go.Proofs.Ytdlcjmdkafebpaa
open Go.RowKit Go.Maps
set_option linter.unusedVariables false

/-- how often a vote was given. -/
def cntV (zs : List Int) (v : Int) : Int := ((zs.countP fun z => z == v : Nat) : Int)
theorem cntV_bound (zs : List Int) (v : Int) : 0 ≤ cntV zs v ∧ cntV zs v ≤ zs.length := by
  unfold cntV
  have := List.countP_le_length (p := fun z => z == v) (l := zs)
  omega
theorem cntV_take {zs : List Int} {k : Nat} {z : Int} (h : zs[k]? = some z) (v : Int) : cntV (zs.take (k + 1)) v = cntV (zs.take k) v + if z = v then 1 else 0 := by
  unfold cntV
  rw [List.take_add_one, h, List.countP_append]
  by_cases e : z = v
  · simp [e]
  · simp [e]
/-- what CountVotes answers: the votes first, then Plan and At. -/
def cntVotes (zs : List Int) (p a v : Int) : Int := cntV zs v
def isTurnB (zs : List Int) (p a : Int) : Bool := isTrn p a zs
theorem cntV_cons (z : Int) (l : List Int) (v : Int) : cntV (z :: l) v = cntV l v + if z = v then 1 else 0 := by
  unfold cntV
  rw [List.countP_cons]
  by_cases e : z = v
  · simp [e]
  · simp [e]
theorem three_all (zs : List Int) : cntV zs 0 + cntV zs 1 + cntV zs 2 ≤ zs.length ∧ (cntV zs 0 + cntV zs 1 + cntV zs 2 = zs.length ↔ zs.all (fun z => inB z 0 2) = true) := by
  induction zs with
  | nil => simp [cntV]
  | cons z l ih =>
    obtain ⟨h1, h2⟩ := ih
    rw [cntV_cons, cntV_cons, cntV_cons, List.all_cons, Bool.and_eq_true, ← h2, List.length_cons]
    cases hz : inB z 0 2
    · have := inB_f hz
      rw [if_neg (by omega), if_neg (by omega), if_neg (by omega)]
      constructor
      · omega
      · simp
        omega
    · have := inB_t hz
      by_cases e0 : z = 0
      · rw [if_pos e0, if_neg (by omega), if_neg (by omega)]
        constructor
        · omega
        · simp; omega
      · by_cases e1 : z = 1
        · rw [if_neg e0, if_pos e1, if_neg (by omega)]
          constructor
          · omega
          · simp; omega
        · rw [if_neg e0, if_neg e1, if_pos (by omega)]
          constructor
          · omega
          · simp; omega
theorem wf64B (z : Int) (h : -9223372036854775808 ≤ z ∧ z ≤ 9223372036854775807) : (Lit.int .i64 z).wf = true := by
  show (decide (IntKind.i64.min ≤ z) && decide (z ≤ IntKind.i64.max)) = true
  simp only [Bool.and_eq_true, decide_eq_true_eq]
  exact h
theorem bal_law : Keyed Try.prog 3 := int_keyed Try.underlying3
theorem bal_zero (w : World) : (zeroValue 3).run Try.prog w = .ok (.int .i64 0) w := by kernel_rfl
/-- block b is a map that says of each vote how often it was given. -/
def BalAt (w : World) (b : Nat) (zs : List Int) : Prop :=
  ∃ D : DataW Unit, w.ownsMap Try.prog 3 (plainElem Try.prog 3) b zs.length D ∧ ∀ v, (Lit.int .i64 v).wf = true → D.atKey (.int .i64 v) (.lit (.int .i64 0)) = .lit (.int .i64 (cntV zs v))
theorem BalAt.below {w w' : World} {b : Nat} {zs : List Int} (h : BalAt w b zs) (hb : Below w.heap.size w w') : BalAt w' b zs := by
  obtain ⟨D, h1, h2⟩ := h
  exact ⟨D, h1.kept (only_of_below hb none) (by simp), h2⟩
set_option maxHeartbeats 1000000 in
set_option maxRecDepth 100000 in
theorem impl_ballotOf (A : Option Addr) (n c B : Nat) (zs : List Int) (w : World) (h : IntsAt .i64 w B A n zs) (hB : B ≤ w.heap.size) (hn : n ≤ 4294967296) (hw : ∀ z ∈ zs, (Lit.int .i64 z).wf = true) :
    Calls Try.prog 131 #[.slice A n c] w fun e w' => ∃ b, e = .returned (.map (some b)) ∧ BalAt w' b zs ∧ Below w.heap.size w w' := by
  have hl := h.1
  have hmm := @run_makeMap Try.prog
  go_enter Try.func131, Try.ntmps131
  go_wp2
  go_loopw [9] (fun i wr => ∃ k : Nat, k ≤ n ∧ i = .int .i64 k ∧ BalAt wr w.heap.size (zs.take k) ∧ Below w.heap.size w wr) (fun i _ => n - (intOf i).toNat)
  case atStart => exact ⟨0, Nat.zero_le _, rfl, ⟨.map [], World.ownsMap_made _ _ _ _, fun v _ => rfl⟩, (Below.refl _ _).alloc (Nat.le_refl _) _⟩
  case round =>
    obtain ⟨k, hk, rfl, ⟨D, hown, hat0⟩, hbl⟩ := hrel
    by_cases hlt : k < n
    · obtain ⟨ad, rfl, hab, hc⟩ := h.2 (by omega)
      have cz := (hbl.cell (by rw [add_block]; omega)).trans (hc k hlt)
      have hz : zs[k]? = some (zs.getD k 0) := by rw [List.getD_eq_getElem?_getD, List.getElem?_eq_getElem (by omega)]; rfl
      have hwz := hw _ (List.mem_of_getElem? hz)
      have hlk : (zs.take k).length = k := by rw [List.length_take]; omega
      have hlk1 : (zs.take (k + 1)).length = k + 1 := by rw [List.length_take]; omega
      generalize zs.getD k 0 = z at *
      have hkey : keyOf Try.prog 3 (.int .i64 z) = some (.int .i64 z) := keyOf_int_mk Try.underlying3 hwz
      have hm := hat0 z hwz
      have hbd := cntV_bound (zs.take k) z
      rw [hlk] at hown hbd
      have HT := Lib.hid (fun v => cntV_take hz v)
      have HAT := Lib.hid hat0
      obtain ⟨m, hmq⟩ : ∃ m, cntV (zs.take k) z = m := ⟨_, rfl⟩
      rw [hmq] at hm hbd
      have HMQ := Lib.hid hmq
      have HL1 := Lib.hid hlk1
      obtain ⟨b1, b2⟩ := hbd
      have i1 : (0 : Int) ≤ (k : Int) := by omega
      have i2 : (k : Int) < (n : Int) := by omega
      clear hc hz hlk hlk1 hat0 hmq hmm
      go_wp2_with (first
        | (at_lookup; refine wpList_lookup_own_int _ rfl _ _ 168 rfl 3 3 .i64 bal_law Try.underlying168 Try.underlying3 (bal_zero _) w.heap.size k D rfl hown _ _ rfl hkey ?_; intro c hat hwc; obtain rfl : c = m := by { rw [hm] at hat; injection hat with hat; injection hat with _ hat; exact hat.symm })
        | (at_mapUpdate; refine wpList_mapUpdate_own _ rfl _ _ _ 168 rfl 3 3 bal_law Try.underlying168 _ w.heap.size k D rfl hown (by unfold maxLen; omega) _ _ _ rfl rfl hkey _ [] (plainElem_int Try.underlying3 (wf64B _ (by omega))) ?_; intro w1 hown1 hgrow1))
      have HB1 := Lib.hid (hbl.grown hgrow1 hbl.size (fun j hj => by cases hj; exact Nat.le_refl _))
      have HBAL : Hid (BalAt w1 w.heap.size (zs.take (k + 1))) := Lib.hid ⟨_, by rw [HL1.out]; exact hown1, fun v hv => by
        rw [HT.out v]
        by_cases e : z = v
        · subst e
          rw [if_pos rfl, HMQ.out]
          exact atKey_put_same hown.isMap (bal_law.key hkey) _ _
        · rw [if_neg e, Int.add_zero, ← HAT.out v hv]
          exact atKey_put_other (fun h5 => by injection h5 with _ h5; exact e h5.symm) _ _⟩
      clear hown1 hgrow1 hown hbl hm
      go_roundw
      case rel => exact ⟨k + 1, by omega, by go_num, HBAL.out, HB1.out⟩
      case measure => simp [intOf]; omega
    · obtain rfl : k = n := by omega
      have HO : Hid (BalAt wr w.heap.size zs) := Lib.hid (by rw [List.take_of_length_le (by omega)] at hown hat0; exact ⟨D, hown, hat0⟩)
      clear hown hat0
      go_wp2
      go_ret
      exact ⟨_, rfl, HO.out, hbl⟩
set_option maxRecDepth 100000 in
theorem impl_CountVotes (p a : Int) (A : Option Addr) (n c B : Nat) (zs : List Int) (v : Int) (w : World) (h : IntsAt .i64 w B A n zs) (hB : B ≤ w.heap.size) (hn : n ≤ 4294967296) (hw : ∀ z ∈ zs, (Lit.int .i64 z).wf = true) (hv : (Lit.int .i64 v).wf = true) :
    Calls Try.prog 80 #[trnV p a (.slice A n c), .int .i64 v] w fun e w' => e = .returned (.int .i64 (cntV zs v)) ∧ Below w.heap.size w w' := by
  simp only [trnV]
  obtain ⟨wA, hwA⟩ : ∃ wA, wA = w.alloc (.cells #[.int .i64 p, .int .i64 a, .slice A n c] 27) := ⟨_, rfl⟩
  obtain ⟨hk, hsz, hBA⟩ := one_block hwA
  have hcc := impl_ballotOf A n c B zs wA (h.keep fun _ hp => hBA.cell (by omega)) (by omega) hn hw
  have HB := Lib.hid hBA
  clear hk hsz hBA h
  go_enter Try.func80, Try.ntmps80
  go_wp2_with fail
  rw [← hwA]
  refine hcc.mono ?_
  rintro e w1 ⟨b, rfl, ⟨D, hown, hat0⟩, hb1⟩
  have HB1 := Lib.hid (HB.out.trans (hb1.mono HB.out.size))
  have HAT := Lib.hid (hat0 v hv)
  have hkey : keyOf Try.prog 3 (.int .i64 v) = some (.int .i64 v) := keyOf_int_mk Try.underlying3 hv
  clear hwA hcc hb1 hat0
  go_wp2_with (at_lookup; refine wpList_lookup_own_int _ rfl _ _ 168 rfl 3 3 .i64 bal_law Try.underlying168 Try.underlying3 (bal_zero _) b zs.length D rfl hown _ _ rfl hkey ?_; intro c hat hwc; rw [HAT.out] at hat; injection hat with hat; injection hat with _ hat; subst hat)
  go_ret
  exact ⟨rfl, HB1.out⟩
set_option maxHeartbeats 1000000 in
theorem spec_CountVotes (p a : Int) (A : Option Addr) (n c B : Nat) (zs : List Int) (v : Int) (w : World) (h : IntsAt .i64 w B A n zs) (hB : B ≤ w.heap.size) (hn : n ≤ 4294967296) :
    Calls Try.prog 78 #[trnV p a (.slice A n c), .int .i64 v] w fun e w' => e = .returned (.int .i64 (cntV zs v)) ∧ Below w.heap.size w w' := by
  simp only [trnV]
  have HL := Lib.hid h.1
  obtain ⟨wA, hwA⟩ : ∃ wA, wA = w.alloc (.cells #[.int .i64 p, .int .i64 a, .slice A n c] 27) := ⟨_, rfl⟩
  obtain ⟨hk, hsz, hBA⟩ := one_block hwA
  obtain ⟨k0, k1, k2⟩ := cells3 hk
  have HB := Lib.hid hBA
  have HH := Lib.hid (h.keep (w' := wA) fun _ hp => hBA.cell (Nat.lt_of_lt_of_le hp hB))
  clear hk hsz hBA h
  go_enter Try.func78, Try.ntmps78
  go_wp2
  rw [← hwA]
  clear hwA
  go_loopw [5, 6] (fun x i wr => ∃ k : Nat, k ≤ n ∧ i = .int .i64 k ∧ x = .int .i64 (cntV (zs.take k) v) ∧ wA = wr) (fun _ i _ => n - (intOf i).toNat)
  case atStart => exact ⟨0, Nat.zero_le _, rfl, rfl, rfl⟩
  case round =>
    obtain ⟨k, hk, rfl, rfl, rfl⟩ := hrel
    have hbd := cntV_bound (zs.take k) v
    rw [List.length_take] at hbd
    by_cases hlt : k < n
    · obtain ⟨ad, rfl, hab, hc⟩ := HH.out.2 (by omega)
      have cz := hc k hlt
      have hz : zs[k]? = some (zs.getD k 0) := by rw [List.getD_eq_getElem?_getD, List.getElem?_eq_getElem (by have := HL.out; omega)]; rfl
      generalize zs.getD k 0 = z at hz cz
      have HT := Lib.hid (cntV_take hz v)
      have i1 : (0 : Int) ≤ (k : Int) := by omega
      have i2 : (k : Int) < (n : Int) := by omega
      generalize cntV (zs.take k) v = m at *
      have hmk : m ≤ k := by omega
      obtain ⟨b1, b2⟩ := hbd
      clear hc hz b2
      by_cases he : z = v
      · subst he
        have HV : Hid (cntV (zs.take (k + 1)) z = m + 1) := Lib.hid (by rw [HT.out, if_pos rfl])
        clear HT
        go_wp2
        go_roundw
        case rel => exact ⟨k + 1, by omega, by go_num, by rw [HV.out], by trivial⟩
        case measure => simp [intOf]; omega
      · have HV : Hid (cntV (zs.take (k + 1)) v = m) := Lib.hid (by rw [HT.out, if_neg he, Int.add_zero])
        have e0 : (z == v) = false := by simpa using he
        clear HT
        go_wp2
        go_roundw
        case rel => exact ⟨k + 1, by omega, by go_num, by rw [HV.out], by trivial⟩
        case measure => simp [intOf]; omega
    · obtain rfl : k = n := by omega
      have HV : Hid (cntV zs v = cntV (zs.take k) v) := Lib.hid (by rw [List.take_of_length_le (by have := HL.out; omega)])
      go_wp2
      go_ret
      exact ⟨by rw [HV.out]; try rfl, HB.out⟩
set_option maxRecDepth 100000 in
theorem impl_balValid (b n : Nat) (zs : List Int) (w : World) (hb : BalAt w b zs) (hl : zs.length = n) (hn : n ≤ 4294967296) :
    Calls Try.prog 132 #[.map (some b), .int .i64 n] w fun e w' => e = .returned (.bool (zs.all fun z => inB z 0 2)) ∧ w = w' := by
  obtain ⟨D, hown, hat0⟩ := hb
  have h0 := hat0 0 (by decide)
  have h1 := hat0 1 (by decide)
  have h2 := hat0 2 (by decide)
  obtain ⟨t1, t2⟩ := three_all zs
  have g0 := cntV_bound zs 0
  have g1 := cntV_bound zs 1
  have g2 := cntV_bound zs 2
  rw [hl] at t1 t2
  have HV : Hid ((zs.all fun z => inB z 0 2) = decide (cntV zs 0 + cntV zs 1 + cntV zs 2 = (n : Int))) := Lib.hid (by
    cases hq : zs.all fun z => inB z 0 2
    · rw [hq] at t2
      exact (decide_eq_false (fun e => by have := t2.1 e; cases this)).symm
    · rw [hq] at t2
      exact (decide_eq_true (t2.2 rfl)).symm)
  clear hat0 t2
  generalize cntV zs 0 = m0 at *
  generalize cntV zs 1 = m1 at *
  generalize cntV zs 2 = m2 at *
  have H0 := Lib.hid h0
  have H1 := Lib.hid h1
  have H2 := Lib.hid h2
  clear h0 h1 h2
  rw [HV.out]
  clear HV
  have hk0 : keyOf Try.prog 3 (.int .i64 0) = some (.int .i64 0) := keyOf_int_mk Try.underlying3 (by decide)
  have hk1 : keyOf Try.prog 3 (.int .i64 1) = some (.int .i64 1) := keyOf_int_mk Try.underlying3 (by decide)
  have hk2 : keyOf Try.prog 3 (.int .i64 2) = some (.int .i64 2) := keyOf_int_mk Try.underlying3 (by decide)
  go_enter Try.func132, Try.ntmps132
  go_wp2_with (at_lookup; first
    | (refine wpList_lookup_own_int _ rfl _ _ 168 rfl 3 3 .i64 bal_law Try.underlying168 Try.underlying3 (bal_zero _) b zs.length D rfl hown _ _ rfl hk0 ?_; intro c hat hwc; rw [H0.out] at hat; injection hat with hat; injection hat with _ hat; subst hat)
    | (refine wpList_lookup_own_int _ rfl _ _ 168 rfl 3 3 .i64 bal_law Try.underlying168 Try.underlying3 (bal_zero _) b zs.length D rfl hown _ _ rfl hk1 ?_; intro c hat hwc; rw [H1.out] at hat; injection hat with hat; injection hat with _ hat; subst hat)
    | (refine wpList_lookup_own_int _ rfl _ _ 168 rfl 3 3 .i64 bal_law Try.underlying168 Try.underlying3 (bal_zero _) b zs.length D rfl hown _ _ rfl hk2 ?_; intro c hat hwc; rw [H2.out] at hat; injection hat with hat; injection hat with _ hat; subst hat))
  go_ret
  exact ⟨by rfl, rfl⟩
end Go.Proofs.Ytdlcjmdkafebpaa
