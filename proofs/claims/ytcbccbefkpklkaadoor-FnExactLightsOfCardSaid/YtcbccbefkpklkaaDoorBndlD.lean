/- Texts of one chain, put together: SwB Equal SwM SwI SwC SwA LawSwt. -/
import Derived.BigQuiet
import Derived.Test.YtcbccbefkpklkaaDoorBndlC
set_option linter.unusedSimpArgs false
/- The change from one plan to another, as Lean data. No walk. -/
namespace Go.Proofs.YtcbccbefkpklkaaDoor
open Go.RowKit
set_option linter.unusedVariables false

/-- the seconds at which one of the first k parts of a begins with the first stage of b. -/
def swTo (ps : List Pth) (a b : List Prt) : Nat → List Int
  | 0 => []
  | k + 1 => if (prAt a k).stage = (prAt b 0).stage then swTo ps a b k ++ [sumTo ps a k] else swTo ps a b k
theorem swTo_yes {ps : List Pth} {a b : List Prt} {k : Nat} (h : (prAt a k).stage = (prAt b 0).stage) : swTo ps a b (k + 1) = swTo ps a b k ++ [sumTo ps a k] := by
  show (if _ then _ else _) = _
  rw [if_pos h]
theorem swTo_no {ps : List Pth} {a b : List Prt} {k : Nat} (h : ¬ (prAt a k).stage = (prAt b 0).stage) : swTo ps a b (k + 1) = swTo ps a b k := by
  show (if _ then _ else _) = _
  rw [if_neg h]
theorem swTo_len (ps : List Pth) (a b : List Prt) : ∀ k, (swTo ps a b k).length ≤ k
  | 0 => Nat.le_refl _
  | k + 1 => by
    have ih := swTo_len ps a b k
    by_cases e : (prAt a k).stage = (prAt b 0).stage
    · rw [swTo_yes e, List.length_append, List.length_singleton]; omega
    · rw [swTo_no e]; omega
/-- what SwitchSeconds answers. -/
def swP (ps : List Pth) (a b : List Prt) : List Int := if isPlan ps a && isPlan ps b then swTo ps a b a.length else []
theorem swP_off {ps : List Pth} {a b : List Prt} (h : (isPlan ps a && isPlan ps b) = false) : swP ps a b = [] := by unfold swP; rw [h]; rfl
theorem swP_on {ps : List Pth} {a b : List Prt} (h1 : isPlan ps a = true) (h2 : isPlan ps b = true) : swP ps a b = swTo ps a b a.length := by unfold swP; rw [h1, h2]; rfl
theorem swP_len (ps : List Pth) (a b : List Prt) : (swP ps a b).length ≤ 6 := by
  cases h1 : isPlan ps a
  · rw [swP_off (by rw [h1]; rfl)]; simp
  · cases h2 : isPlan ps b
    · rw [swP_off (by rw [h1, h2]; rfl)]; simp
    · rw [swP_on h1 h2]
      have := (isPlan_parts h1).1
      have := swTo_len ps a b a.length
      omega
/-- what CanSwitch answers. -/
def canSw (ps : List Pth) (a b : List Prt) : Bool := decide (0 < (swP ps a b).length)
/-- what LightAfter answers. -/
def afterP (ps : List Pth) (a b : List Prt) (t s id : Int) : Int :=
  if inB t 0 200000 && inB s 0 1000000 then (if s < t then lightP ps a s id else lightP ps b (s - t) id) else 0
theorem afterP_off {ps : List Pth} {a b : List Prt} {t s id : Int} (h : (inB t 0 200000 && inB s 0 1000000) = false) : afterP ps a b t s id = 0 := by unfold afterP; rw [h]; rfl
theorem afterP_on {ps : List Pth} {a b : List Prt} {t s id : Int} (h : inB t 0 200000 = true) (h2 : inB s 0 1000000 = true) : afterP ps a b t s id = if s < t then lightP ps a s id else lightP ps b (s - t) id := by unfold afterP; rw [h, h2]; rfl
/-- two stages are the same iff their sets are. -/
theorem maskL_same {ps : List Pth} {x y : List Int} (h1 : isTog ps x = true) (h2 : isTog ps y = true) : maskL ps x = maskL ps y ↔ x = y := by
  obtain ⟨_, _, a2, _, _⟩ := tog_maskL h1
  obtain ⟨_, _, b2, _, _⟩ := tog_maskL h2
  constructor
  · intro e
    rw [a2, b2, e]
  · intro e
    rw [e]
theorem plan_same {ps : List Pth} {a b : List Prt} (h1 : isPlan ps a = true) (h2 : isPlan ps b = true) {k : Nat} (hk : k < a.length) : maskL ps (prAt a k).stage = maskL ps (prAt b 0).stage ↔ (prAt a k).stage = (prAt b 0).stage := by
  obtain ⟨_, _, _, ok1⟩ := isPlan_parts h1
  obtain ⟨⟨hl, _⟩, _, _, ok2⟩ := isPlan_parts h2
  exact maskL_same (okPrt_parts (ok1 k hk)).2.1 (okPrt_parts (ok2 0 (by omega))).2.1

/-! The first second from f on that is one of these. -/
/-- in how many seconds the second s of the cycle n comes, from f on. -/
def comeIn (n f s : Int) : Int := (s - f) % n
def leastL : List Int → Int
  | [] => 0
  | [x] => x
  | x :: y :: l => minI x (leastL (y :: l))
theorem leastL_mem : ∀ {l : List Int}, l ≠ [] → leastL l ∈ l
  | [], h => absurd rfl h
  | [x], _ => by simp [leastL]
  | x :: y :: l, _ => by
    have ih := leastL_mem (l := y :: l) (by simp)
    show minI x (leastL (y :: l)) ∈ _
    unfold minI
    split <;> first | exact List.mem_cons_of_mem _ ih | exact List.mem_cons_self
theorem leastL_le : ∀ {l : List Int} {x : Int}, x ∈ l → leastL l ≤ x
  | [], _, h => by cases h
  | [y], x, h => by
    have : x = y := by simpa using h
    subst this
    exact Int.le_refl _
  | z :: y :: l, x, h => by
    show minI z (leastL (y :: l)) ≤ x
    rcases List.mem_cons.1 h with rfl | h
    · unfold minI; split <;> omega
    · have := leastL_le h
      unfold minI; split <;> omega
/-- what SwitchAt answers. -/
def swAtP (ps : List Pth) (a b : List Prt) (f : Int) : Int :=
  if (swP ps a b).length = 0 then -1 else if inB f 0 100000 then leastL ((swP ps a b).map fun s => f + comeIn (cycleP ps a) f s) else -1
theorem hasI_mem {zs : List Int} {x : Int} : hasI zs x = true ↔ x ∈ zs := by
  unfold hasI
  rw [List.contains_iff_mem]
theorem come_hit {n f s : Int} (hn : 0 < n) (h0 : 0 ≤ s) (h1 : s < n) : (f + comeIn n f s) % n = s := by
  unfold comeIn
  rw [Int.add_emod_emod, show f + (s - f) = s by omega]
  exact Int.emod_eq_of_lt h0 h1
theorem come_bound {n f s : Int} (hn : 0 < n) : 0 ≤ comeIn n f s ∧ comeIn n f s < n := ⟨Int.emod_nonneg _ (by omega), Int.emod_lt_of_pos _ hn⟩
theorem sw_first {zs : List Int} {n f t : Int} (hn : 0 < n) (hz : ∀ s ∈ zs, 0 ≤ s ∧ s < n) (hf : f ≤ t) (hno : ∀ u, f ≤ u → u < t → hasI zs (u % n) = false) (hy : hasI zs (t % n) = true) :
    leastL (zs.map fun s => f + comeIn n f s) = t := by
  have hm := hasI_mem.1 hy
  have htn : t < f + n := by
    by_cases q : t < f + n
    · exact q
    · have := hno (t - n) (by omega) (by omega)
      rw [Int.sub_emod_right, hy] at this
      cases this
  have ht : f + comeIn n f (t % n) = t := by
    unfold comeIn
    rw [Int.emod_sub_emod, Int.emod_eq_of_lt (by omega) (by omega)]
    omega
  have hne : (zs.map fun s => f + comeIn n f s) ≠ [] := by
    intro e
    rw [List.map_eq_nil_iff] at e
    rw [e] at hm
    cases hm
  have h1 : leastL (zs.map fun s => f + comeIn n f s) ≤ t := leastL_le (List.mem_map.2 ⟨t % n, hm, ht⟩)
  obtain ⟨s, hs, he⟩ := List.mem_map.1 (leastL_mem hne)
  obtain ⟨b0, b1⟩ := hz s hs
  have hc := come_bound (n := n) (f := f) (s := s) hn
  have hh := come_hit (f := f) hn b0 b1
  have h2 : ¬ f + comeIn n f s < t := fun q => by
    have := hno (f + comeIn n f s) (by omega) q
    rw [hh, hasI_mem.2 hs] at this
    cases this
  rw [← he] at h1 ⊢
  omega
/-- there is one within a round. -/
theorem sw_within {zs : List Int} {n f t : Int} (hn : 0 < n) (hz : ∀ s ∈ zs, 0 ≤ s ∧ s < n) (h0 : zs ≠ []) (hno : ∀ u, f ≤ u → u < t → hasI zs (u % n) = false) : t < f + n := by
  obtain ⟨s, hs⟩ := List.exists_mem_of_ne_nil _ h0
  obtain ⟨b0, b1⟩ := hz s hs
  have hc := come_bound (n := n) (f := f) (s := s) hn
  have hh := come_hit (f := f) hn b0 b1
  by_cases q : f + comeIn n f s < t
  · have := hno (f + comeIn n f s) (by omega) q
    rw [hh, hasI_mem.2 hs] at this
    cases this
  · omega
theorem swTo_in {ps : List Pth} {a b : List Prt} (h : isPlan ps a = true) : ∀ k, k ≤ a.length → ∀ s ∈ swTo ps a b k, 0 ≤ s ∧ s < sumTo ps a a.length
  | 0, _, s, hs => by cases hs
  | k + 1, hk, s, hs => by
    have ih := swTo_in (b := b) h k (by omega)
    by_cases e : (prAt a k).stage = (prAt b 0).stage
    · rw [swTo_yes e, List.mem_append, List.mem_singleton] at hs
      rcases hs with hs | rfl
      · exact ih s hs
      · have h1 := sumTo_bound h k (by omega)
        have h2 := longAt_bound h (j := k) (by omega)
        have h3 := sumTo_mono h (i := k + 1) (j := a.length) hk (Nat.le_refl _)
        have h4 : sumTo ps a (k + 1) = sumTo ps a k + longAt ps a k := rfl
        omega
    · rw [swTo_no e] at hs
      exact ih s hs
theorem swP_in {ps : List Pth} {a b : List Prt} : ∀ s ∈ swP ps a b, 0 ≤ s ∧ s < cycleP ps a := by
  intro s hs
  cases h1 : isPlan ps a
  · rw [swP_off (by rw [h1]; rfl)] at hs; cases hs
  · cases h2 : isPlan ps b
    · rw [swP_off (by rw [h1, h2]; rfl)] at hs; cases hs
    · rw [swP_on h1 h2] at hs
      rw [cycle_yes h1]
      exact swTo_in h1 _ (Nat.le_refl _) s hs
theorem swP_plan {ps : List Pth} {a b : List Prt} (h : (swP ps a b).length ≠ 0) : isPlan ps a = true := by
  cases h1 : isPlan ps a
  · rw [swP_off (by rw [h1]; rfl)] at h; exact absurd rfl h
  · rfl
theorem swAtP_none {ps : List Pth} {a b : List Prt} {f : Int} (h : (swP ps a b).length = 0) : swAtP ps a b f = -1 := by unfold swAtP; rw [if_pos h]
theorem swAtP_off {ps : List Pth} {a b : List Prt} {f : Int} (h : inB f 0 100000 = false) : swAtP ps a b f = -1 := by
  unfold swAtP
  rw [h]
  split <;> rfl
theorem swAtP_on {ps : List Pth} {a b : List Prt} {f : Int} (h : (swP ps a b).length ≠ 0) (h2 : inB f 0 100000 = true) : swAtP ps a b f = leastL ((swP ps a b).map fun s => f + comeIn (cycleP ps a) f s) := by unfold swAtP; rw [if_neg h, h2]; rfl
end Go.Proofs.YtcbccbefkpklkaaDoor

/- Contracts of EqualBytes and EqualInts: program and model. -/
namespace Go.Proofs.YtcbccbefkpklkaaDoor
open Go.RowKit
set_option linter.unusedVariables false

/-- what EqualBytes and EqualInts answer. -/
def eqL (a b : List Int) : Bool := decide (a = b)
/-- the string of these bytes. -/
def bstr (zs : List Int) : ByteArray := zs.foldl (fun r n => r.push (UInt8.ofNat n.toNat)) ByteArray.empty
theorem bstr_fold (zs : List Int) : ∀ r : ByteArray, (zs.foldl (fun r n => r.push (UInt8.ofNat n.toNat)) r).toList = r.toList ++ zs.map fun n => UInt8.ofNat n.toNat := by
  induction zs with
  | nil => intro r; simp
  | cons z zs ih =>
    intro r
    rw [List.foldl_cons, ih, List.map_cons]
    simp [ByteArray.toList_eq]
theorem bstr_list (zs : List Int) : (bstr zs).toList = zs.map fun n => UInt8.ofNat n.toNat := by
  unfold bstr
  rw [bstr_fold]
  simp [ByteArray.toList_eq]
theorem bytes_inj : ∀ (a b : List Int), (∀ z ∈ a, 0 ≤ z ∧ z ≤ 255) → (∀ z ∈ b, 0 ≤ z ∧ z ≤ 255) → (a.map fun n => UInt8.ofNat n.toNat) = (b.map fun n => UInt8.ofNat n.toNat) → a = b
  | [], [], _, _, _ => rfl
  | [], _ :: _, _, _, h => by simp at h
  | _ :: _, [], _, _, h => by simp at h
  | x :: a, y :: b, ha, hb, h => by
    simp only [List.map_cons, List.cons.injEq] at h
    have hx := ha x List.mem_cons_self
    have hy := hb y List.mem_cons_self
    have h1 := congrArg UInt8.toNat h.1
    simp only [UInt8.toNat_ofNat'] at h1
    have e : x = y := by omega
    rw [e, bytes_inj a b (fun z hz => ha z (List.mem_cons_of_mem _ hz)) (fun z hz => hb z (List.mem_cons_of_mem _ hz)) h.2]
theorem bstr_inj {a b : List Int} (ha : ∀ z ∈ a, 0 ≤ z ∧ z ≤ 255) (hb : ∀ z ∈ b, 0 ≤ z ∧ z ≤ 255) (h : bstr a = bstr b) : a = b :=
  bytes_inj a b ha hb (by rw [← bstr_list, ← bstr_list, h])
/-- 'string(b)'. -/
theorem run_string_of_bytes {P : Program} {src dst e : TypeId} (hs : P.underlying src = some (.slice e)) (he : P.underlying e = some (.int .u8)) (hd : P.underlying dst = some .string) (A : Option Addr) (n c B : Nat) (zs : List Int) (w : World) (h : IntsAt .u8 w B A n zs) :
    (convert src dst (.slice A n c)).run P w = .ok (.string (bstr zs)) w := by
  rw [run_convert_bytes_string _ src dst e _ _ _ hs he hd]
  have hl := h.1
  cases A with
  | none =>
    have h0 : n = 0 := by
      rcases Nat.eq_zero_or_pos n with h0 | h0
      · exact h0
      · obtain ⟨ad, e, _⟩ := h.2 h0; cases e
    subst h0
    have : zs = [] := List.eq_nil_of_length_eq_zero hl
    subst this
    simp [Conv.bytesToString, bstr]
  | some ad =>
    refine run_bytesToString _ _ _ _ zs ?_
    have h2 := run_loadCells_list (P := P) w ad (zs.map (Value.int .u8)) (ints_news h)
    rw [List.length_map, hl] at h2
    exact h2
end Go.Proofs.YtcbccbefkpklkaaDoor

/- The change from one plan to another: the model. -/
namespace Go.Proofs.YtcbccbefkpklkaaDoor
open Go.RowKit
set_option linter.unusedVariables false

set_option maxHeartbeats 4000000 in
theorem spec_SwitchSeconds (A : Option Addr) (n c B : Nat) (ps : List Pth) (A2 : Option Addr) (n2 c2 B2 : Nat) (a : List Prt) (A3 : Option Addr) (n3 c3 B3 : Nat) (b : List Prt) (w : World) (h : PthsAt w B A n ps) (hB : B ≤ w.heap.size) (hn : n ≤ 4294967296) (h2 : PrtsAt w B2 A2 n2 a) (hB2 : B2 ≤ w.heap.size) (hn2 : n2 ≤ 1048576) (hm : ∀ j, j < n2 → (prAt a j).stage.length ≤ 1048576) (h3 : PrtsAt w B3 A3 n3 b) (hB3 : B3 ≤ w.heap.size) (hn3 : n3 ≤ 1048576) (hm3 : ∀ j, j < n3 → (prAt b j).stage.length ≤ 1048576) :
    Calls Tryd.prog 29 #[.slice A n c, .slice A2 n2 c2, .slice A3 n3 c3] w fun e w' => ∃ v, e = .returned v ∧ Own .i64 3 w' w.heap.size v (swP ps a b) ∧ Below w.heap.size w w' := by
  have hl2 := h2.1
  have hl3 := h3.1
  have HIA := Lib.hid (fun x (hx : Below w.heap.size w x) => spec_IsPlan A n c B ps A2 n2 c2 B2 a x (h.below (hx.mono hB)) (Nat.le_trans hB hx.size) hn (h2.below hB2 hx) (Nat.le_trans hB2 hx.size) hn2 hm)
  have HIB := Lib.hid (fun x (hx : Below w.heap.size w x) => spec_IsPlan A n c B ps A3 n3 c3 B3 b x (h.below (hx.mono hB)) (Nat.le_trans hB hx.size) hn (h3.below hB3 hx) (Nat.le_trans hB3 hx.size) hn3 hm3)
  have HST := Lib.hid (fun k x (hx : Below w.heap.size w x) => spec_StartOf A n c B ps A2 n2 c2 B2 a k x (h.below (hx.mono hB)) (Nat.le_trans hB hx.size) hn (h2.below hB2 hx) (Nat.le_trans hB2 hx.size) hn2 hm)
  have own0 := own_bare .i64 3 w
  have hb0 : Below w.heap.size w (w.alloc (.cells #[] 3)) := (Below.refl _ _).alloc (Nat.le_refl _) _
  have HO0 := Lib.hid own0
  have HB0 := Lib.hid hb0
  have HL2 := Lib.hid hl2
  have HL3 := Lib.hid hl3
  have H2 := Lib.hid h2
  have H3 := Lib.hid h3
  have HM := Lib.hid hm
  have HM3 := Lib.hid hm3
  clear h h2 h3 hm hm3 own0 hb0 hl2 hl3
  cases hp : isPlan ps a
  · have HR := Lib.hid (swP_off (b := b) (by rw [hp]; rfl))
    have HP := Lib.hid hp
    clear hp
    go_enter Tryd.func29, Tryd.ntmps29
    go_wp2
    go_loopw [7, 8] (fun v i wr => i = .int .i64 0 ∧ Own .i64 3 wr w.heap.size v [] ∧ Below w.heap.size w wr) (fun _ _ _ => 0)
    case atStart => exact ⟨rfl, HO0.out, HB0.out⟩
    case round =>
      clear HO0 HB0
      obtain ⟨rfl, hown, hbl⟩ := hrel
      have HOW := Lib.hid hown
      have HBL := Lib.hid hbl
      clear hown hbl
      by_cases hlt : 0 < n2
      · go_wp2_with fail
        refine (HIA.out _ HBL.out).mono ?_
        rw [HP.out]
        rintro e w1 ⟨rfl, hb1⟩
        have HO1 := Lib.hid (HOW.out.below hb1)
        have HB1 := Lib.hid (HBL.out.trans (hb1.mono HBL.out.size))
        clear hb1
        go_wp2
        go_ret
        exact ⟨_, rfl, by rw [HR.out]; exact HO1.out, HB1.out⟩
      · obtain rfl : n2 = 0 := by omega
        go_wp2
        go_ret
        exact ⟨_, rfl, by rw [HR.out]; exact HOW.out, HBL.out⟩
  · have HP := Lib.hid hp
    have hn6 := (isPlan_parts hp).1
    rw [HL2.out] at hn6
    cases hq : isPlan ps b
    · have HR := Lib.hid (swP_off (a := a) (b := b) (ps := ps) (by rw [hp, hq]; rfl))
      have HQ := Lib.hid hq
      clear hp hq
      go_enter Tryd.func29, Tryd.ntmps29
      go_wp2
      go_loopw [7, 8] (fun v i wr => i = .int .i64 0 ∧ Own .i64 3 wr w.heap.size v [] ∧ Below w.heap.size w wr) (fun _ _ _ => 0)
      case atStart => exact ⟨rfl, HO0.out, HB0.out⟩
      case round =>
        clear HO0 HB0
        obtain ⟨rfl, hown, hbl⟩ := hrel
        have HOW := Lib.hid hown
        have HBL := Lib.hid hbl
        clear hown hbl
        have hlt : 0 < n2 := by omega
        go_wp2_with fail
        refine (HIA.out _ HBL.out).mono ?_
        rw [HP.out]
        rintro e w1 ⟨rfl, hb1⟩
        have HO1 := Lib.hid (HOW.out.below hb1)
        have HB1 := Lib.hid (HBL.out.trans (hb1.mono HBL.out.size))
        clear hb1
        go_wp2_with fail
        refine (HIB.out _ HB1.out).mono ?_
        rw [HQ.out]
        rintro e w2 ⟨rfl, hb2⟩
        have HO2 := Lib.hid (HO1.out.below hb2)
        have HB2 := Lib.hid (HB1.out.trans (hb2.mono HB1.out.size))
        clear hb2
        go_wp2
        go_ret
        exact ⟨_, rfl, by rw [HR.out]; exact HO2.out, HB2.out⟩
    · have HR := Lib.hid (swP_on hp hq)
      rw [HL2.out] at HR
      have HQ := Lib.hid hq
      have hn1 := (isPlan_parts hq).1
      rw [HL3.out] at hn1
      have HSS := Lib.hid (fun k (hk : k < n2) => show startP ps a (k : Int) = sumTo ps a k from by
        unfold startP
        rw [HP.out, HL2.out]
        have e : inB (k : Int) 0 ((n2 : Int) - 1) = true := by unfold inB; simp; omega
        rw [e]
        rfl)
      clear hp hq
      go_enter Tryd.func29, Tryd.ntmps29
      go_wp2
      go_loopw [7, 8] (fun v i wr => ∃ k : Nat, k ≤ n2 ∧ i = .int .i64 k ∧ Own .i64 3 wr w.heap.size v (swTo ps a b k) ∧ Below w.heap.size w wr) (fun _ i _ => n2 - (intOf i).toNat)
      case atStart => exact ⟨0, Nat.zero_le _, rfl, HO0.out, HB0.out⟩
      case round =>
        clear HO0 HB0
        obtain ⟨k, hk, rfl, hown, hbl⟩ := hrel
        have HOW := Lib.hid hown
        have HBL := Lib.hid hbl
        have hln := swTo_len ps a b k
        clear hown hbl
        by_cases hlt : k < n2
        · obtain ⟨ad, A', m, c', rfl, hab, hq, hi, hmc, hnil⟩ := H2.out.at hlt
          obtain ⟨ad2, A2', m2, c2', rfl, hab2, hq2, hi2, hmc2, hnil2⟩ := H3.out.at (j := 0) (by omega)
          have hmk := HM.out k hlt
          have hmk2 := HM3.out 0 (by omega)
          have hlz := hi.1
          have hlz2 := hi2.1
          have HQ1 := Lib.hid hq
          have HQ2 := Lib.hid hq2
          have HI := Lib.hid hi
          have HI2 := Lib.hid hi2
          have HY := Lib.hid (fun hh => swTo_yes (ps := ps) (a := a) (b := b) (k := k) hh)
          have HN := Lib.hid (fun hh => swTo_no (ps := ps) (a := a) (b := b) (k := k) hh)
          have HSK := Lib.hid (fun x hx => HST.out (k : Int) x hx)
          rw [HSS.out k hlt] at HSK
          clear hq hq2 hi hi2
          generalize (prAt a k).stage = zs at *
          generalize (prAt b 0).stage = zs2 at *
          generalize sumTo ps a k = z at *
          have i1 : (0 : Int) ≤ (k : Int) := by omega
          have i2 : (k : Int) < (n2 : Int) := by omega
          have i3 : (0 : Int) < (n3 : Int) := by omega
          go_wp2_with fail
          refine (HIA.out _ HBL.out).mono ?_
          rw [HP.out]
          rintro e w1 ⟨rfl, hb1⟩
          have HO1 := Lib.hid (HOW.out.below hb1)
          have HB1 := Lib.hid (HBL.out.trans (hb1.mono HBL.out.size))
          clear hb1
          go_wp2_with fail
          refine (HIB.out _ HB1.out).mono ?_
          rw [HQ.out]
          rintro e w2 ⟨rfl, hb2⟩
          have hO2 := HO1.out.below hb2
          have hBw := HB1.out.trans (hb2.mono HB1.out.size)
          have HO2 := Lib.hid hO2
          have HBW := Lib.hid hBw
          have hsw := hBw.size
          clear hb2 HO1 HB1
          have c0 := fun x : GW w2 => ((HQ1.out.below hBw (by omega)).below x.ok (by omega)).c0
          have d0 := fun x : GW w2 => (show x.val.cell? ad2 = some (.slice A2' m2 c2') from ((HQ2.out.below hBw (by omega)).below x.ok (by omega)).c0)
          have hcc := fun x : GW w2 => spec_EqualInts A' m c' B2 zs A2' m2 c2' B3 zs2 x.val (HI.out.two' hB2 hBw x.ok) (HI2.out.two' hB3 hBw x.ok) (by omega) (by omega)
          clear hO2 hBw hlz hlz2 hmk hmk2 HI HI2 HQ1 HQ2
          cases hz : decide (zs = zs2)
          · have HL := Lib.hid (HN.out (of_decide_eq_false hz))
            rw [hz] at hcc
            clear hz
            go_wp2
            refine wp_region_grow (by kernel_rfl) (by kernel_rfl) ?_
            repeat (go_big_quiet_step (first | (go_at_call 79; exact calls_gw _ (hcc _))))
            refine wpQuiet_nil ?_
            intro x3
            have HB3 := Lib.hid (HBW.out.trans (x3.ok.mono hsw))
            have HO3 := Lib.hid (HO2.out.below x3.ok)
            clear c0 d0 hcc
            generalize x3.val = w3 at *
            go_wp2
            go_roundw
            case rel => exact ⟨k + 1, by omega, by go_num, by rw [HL.out]; exact HO3.out, HB3.out⟩
            case measure => simp [intOf]; omega
          · have HL := Lib.hid (HY.out (of_decide_eq_true hz))
            rw [hz] at hcc
            clear hz
            go_wp2
            refine wp_region_grow (by kernel_rfl) (by kernel_rfl) ?_
            repeat (go_big_quiet_step (first | (go_at_call 79; exact calls_gw _ (hcc _))))
            refine wpQuiet_nil ?_
            intro x3
            have HB3 := Lib.hid (HBW.out.trans (x3.ok.mono hsw))
            have HO3 := Lib.hid (HO2.out.below x3.ok)
            clear c0 d0 hcc
            generalize x3.val = w3 at *
            go_wp2_with fail
            refine (HSK.out _ HB3.out).mono ?_
            rintro e w4 ⟨rfl, hb4⟩
            have hO4 := HO3.out.below hb4
            have hB4 := HB3.out.trans (hb4.mono HB3.out.size)
            have HB4 := Lib.hid hB4
            have hsz4 := hB4.size
            clear hb4 hB4
            go_wp2_with (at_builtin; refine wpList_app1 rfl _ _ 23 rfl .i64 3 8 Tryd.underlying23 info_i64 w.heap.size _ (swTo ps a b k) rfl hO4 (by decide) (by omega) _ _ _ w4.heap.size hsz4 rfl (by simp) ?_; intro v7 w7 hown7 hgrow7 hat7)
            have HO7 : Hid (Own .i64 3 w7 w.heap.size v7 (swTo ps a b (k + 1))) := Lib.hid (by rw [HL.out]; exact hown7)
            have HB7 := Lib.hid (hO4.push (Nat.le_refl _) (HB4.out.alloc hsz4 _) (by simp; omega) hgrow7)
            clear hown7 hgrow7 hat7 hO4
            go_roundw
            case rel => exact ⟨k + 1, by omega, by go_num, HO7.out, HB7.out⟩
            case measure => simp [intOf]; omega
        · obtain rfl : k = n2 := by omega
          go_wp2
          go_ret
          exact ⟨_, rfl, by rw [HR.out]; exact HOW.out, HBL.out⟩
end Go.Proofs.YtcbccbefkpklkaaDoor

/- The change from one plan to another: SwitchSeconds of the program (written by gensw.py). -/
namespace Go.Proofs.YtcbccbefkpklkaaDoor
open Go.RowKit
set_option linter.unusedVariables false

/-- the parameters of a function of two plans. -/
theorem impl_timePlan_any {w : World} {A : Option Addr} {n c B : Nat} {ps : List Pth} {A2 : Option Addr} {n2 c2 B2 : Nat} {p : List Prt} (I : PlnIn w A n c B ps A2 n2 c2 B2 p) :
    Calls Tryd.prog 70 #[.slice A n c, .slice A2 n2 c2] w fun e w' => ∃ A' n' c' f a1 m1 q1 a2 m2 q2 L, e = .returned (.tuple #[.agg (t16 A' n' c' f (.slice a1 m1 q1) (.slice a2 m2 q2) L), .bool (isPlan ps p)]) ∧ Below w.heap.size w w' := by
  cases hp : isPlan ps p
  · exact (impl_timePlan_off I hp).mono fun e w' ⟨h1, h2⟩ => ⟨_, _, _, _, _, _, _, _, _, _, _, h1, h2⟩
  · exact (impl_timePlan_on I hp).mono fun e w' ⟨a1, q1, a2, q2, h1, _, h2⟩ => ⟨_, _, _, _, _, _, _, _, _, _, _, h1, h2⟩
set_option maxHeartbeats 1000000 in
theorem impl_opens (m g a b : Nat) (gr cl le : Int) (w : World) (hc : w.cell? ⟨g, 0, none⟩ = some (.int .u16 (m : Nat))) (hg : g < w.heap.size) :
    Calls Tryd.prog 131 #[.agg #[.int .u16 (a : Nat), .int .u16 (b : Nat), .int .i64 gr, .int .i64 cl, .int .i64 le], .pointer (some ⟨g, 0, none⟩)] w fun e w' => e = .returned (.bool (decide (a = m))) ∧ Below w.heap.size w w' := by
  have e1 : ((a : Int) == (m : Int)) = decide (a = m) := by rw [Bool.eq_iff_iff, beq_iff_eq, decide_eq_true_eq]; omega
  generalize decide (a = m) = u at *
  go_enter Tryd.func131, Tryd.ntmps131
  go_wp2
  go_ret
  exact ⟨rfl, (Below.refl _ _).alloc (Nat.le_refl _) _⟩
set_option maxHeartbeats 2000000 in
set_option maxRecDepth 100000 in
theorem impl_opensLike {ps : List Pth} {p : List Prt} {n2 : Nat} (h0 : 0 < n2) (A : Option Addr) (n c : Nat) (f : Nat → Nat) {a1 : Option Addr} {lo q1 : Nat} {a2 : Option Addr} {q2 : Nat} (L : Int) (w : World) (hP : PhsIn w lo ps p n2 a1 q1 a2 q2) :
    Calls Tryd.prog 81 #[.agg (t16 A n c f (.slice a1 n2 q1) (.slice a2 n2 q2) L)] w fun e w' => e = .returned (.func (.func 131) #[] #[.pointer (some ⟨w.heap.size + 1, 0, none⟩)]) ∧ w'.cell? ⟨w.heap.size + 1, 0, none⟩ = some (.int .u16 (maskL ps (prAt p 0).stage : Nat)) ∧ w.heap.size + 1 < w'.heap.size ∧ Below w.heap.size w w' := by
  have hmf : ∀ (fn : Fn) (first cap : Array Value) (w : World), (Instr.makeFunc fn first cap).run Tryd.prog w = .ok (.func fn first cap) w := fun _ _ _ _ => rfl
  obtain ⟨g1, rfl, hg1⟩ := hP.some h0
  have hc := hP.cells (k := 0) h0 0 (by decide)
  have hc0 : w.cell? ⟨g1, 0, none⟩ = some (.int .u16 (maskL ps (prAt p 0).stage : Nat)) := hc
  have hz : (maskL ps (prAt p 0).stage : Nat) ≤ 4294967296 ∨ True := .inr trivial
  generalize maskL ps (prAt p 0).stage = m at *
  have i3 : (0 : Int) < (n2 : Int) := by omega
  have hg2 := hg1.2
  have HB := Lib.hid (fun o o' => ((Below.refl w.heap.size w).alloc (Nat.le_refl _) o).alloc (by simp) o')
  clear hP hc hz hg1
  unfold t16
  go_enter Tryd.func81, Tryd.ntmps81
  go_wp2
  go_ret
  refine ⟨rfl, ?_, by simp, HB.out _ _⟩
  go_simp

set_option maxHeartbeats 8000000 in
set_option maxRecDepth 100000 in
theorem impl_SwitchSeconds {w : World} {A : Option Addr} {n c B : Nat} {ps : List Pth} {A2 : Option Addr} {n2 c2 B2 : Nat} {a : List Prt} {A3 : Option Addr} {n3 c3 B3 : Nat} {b : List Prt} (I : PlnIn w A n c B ps A2 n2 c2 B2 a) (J : PlnIn w A n c B ps A3 n3 c3 B3 b) :
    Calls Tryd.prog 30 #[.slice A n c, .slice A2 n2 c2, .slice A3 n3 c3] w fun e w' => ∃ v, e = .returned v ∧ Own .i64 3 w' w.heap.size v (swP ps a b) ∧ Below w.heap.size w w' := by
  have hb0 : Below w.heap.size w (w.alloc (.cells #[] 3)) := (Below.refl _ _).alloc (Nat.le_refl _) _
  have HO0 := Lib.hid (own_bare .i64 3 w)
  have HB0 := Lib.hid hb0
  have hs0 : (w.alloc (.cells #[] 3)).heap.size = w.heap.size + 1 := by simp
  obtain ⟨w0, hw0⟩ : ∃ w0, w0 = w.alloc (.cells #[] 3) := ⟨_, rfl⟩
  rw [← hw0] at HO0 HB0 hs0
  have HI := Lib.hid (I.below HB0.out)
  have HJ := Lib.hid (J.below HB0.out)
  have HR0 : Hid ((isPlan ps a && isPlan ps b) = false → swP ps a b = []) := Lib.hid swP_off
  clear I J hb0
  cases ha : isPlan ps a
  rotate_left
  cases hb : isPlan ps b
  rotate_left

  · have HRS := Lib.hid (swP_on ha hb)
    rw [HI.out.len] at HRS
    have HPA := Lib.hid ha
    have HPB := Lib.hid hb
    obtain ⟨⟨ha1, ha6⟩, _⟩ := isPlan_parts ha
    obtain ⟨⟨hb1, hb6⟩, _⟩ := isPlan_parts hb
    rw [HI.out.len] at ha1 ha6
    rw [HJ.out.len] at hb1 hb6
    have HSAME := Lib.hid (fun k (hk : k < n2) => plan_same ha hb (k := k) (by rw [HI.out.len]; exact hk))
    have TA := impl_timePlan_on HI.out ha
    have TB := fun x (hx : Below w0.heap.size w0 x) => impl_timePlan_on (HJ.out.below hx) hb
    unfold t16 at TA TB
    have HTA := Lib.hid TA
    have HTB := Lib.hid TB
    clear TA TB ha hb HR0 HI HJ
    go_enter Tryd.func30, Tryd.ntmps30
    go_wp2_with fail
    rw [← hw0]
    refine HTA.out.mono ?_
    rintro e w1 ⟨a1, q1, a2, q2, rfl, hpA, hb1⟩
    clear hw0
    obtain ⟨w2, hw2⟩ : ∃ w2, w2 = w1.alloc (.cells (t16 A n c (rowSt ps n 0) (.slice a1 n2 q1) (.slice a2 n2 q2) (sumTo ps a n2)) 95) := ⟨_, rfl⟩
    have hX2 : w2.heap[w1.heap.size]? = some (.cells (t16 A n c (rowSt ps n 0) (.slice a1 n2 q1) (.slice a2 n2 q2) (sumTo ps a n2)) 95) := by rw [hw2]; exact heap_alloc_new _ _
    have hb12 : Below w1.heap.size w1 w2 := by rw [hw2]; exact (Below.refl _ _).alloc (Nat.le_refl _) _
    have hb2 : Below w0.heap.size w0 w2 := hb1.trans (hb12.mono hb1.size)
    have HB2 := Lib.hid hb2
    have HT2 := Lib.hid (HTB.out w2 hb2)
    have HPH2 := Lib.hid (hpA.below hb12)
    have HX2 := Lib.hid hX2
    unfold t16 at hw2
    have hsA : w0.heap.size ≤ w1.heap.size := hb1.size
    have hsB : w1.heap.size < w2.heap.size := by rw [hw2]; simp
    clear hb1 hb2 hpA hX2 hb12
    go_wp2_with fail
    rw [← hw2]
    refine HT2.out.mono ?_
    rintro e w3 ⟨b1, r1, b2, r2, rfl, hpB, hb3⟩
    clear hw2
    obtain ⟨w4, hw4⟩ : ∃ w4, w4 = w3.alloc (.cells (t16 A n c (rowSt ps n 0) (.slice b1 n3 r1) (.slice b2 n3 r2) (sumTo ps b n3)) 95) := ⟨_, rfl⟩
    have hX4 : w4.heap[w3.heap.size]? = some (.cells (xcells A n c (rowSt ps n 0) ++ [Value.slice b1 n3 r1, .slice b2 n3 r2, .int .i64 (sumTo ps b n3)]).toArray 95) := by rw [hw4, t16_list]; exact heap_alloc_new _ _
    have hb34 : Below w3.heap.size w3 w4 := by rw [hw4]; exact (Below.refl _ _).alloc (Nat.le_refl _) _
    have hb24 : Below w2.heap.size w2 w4 := hb3.trans (hb34.mono hb3.size)
    have HPB4 := Lib.hid (hpB.below hb34)
    have HPH4 := Lib.hid (HPH2.out.below hb24)
    have HXA := Lib.hid ((hb24.block _ hsB).trans HX2.out)
    have HB4 := Lib.hid (HB2.out.trans (hb24.mono HB2.out.size))
    have hsC : w2.heap.size ≤ w4.heap.size := hb24.size
    have hrng := range_block hX4
    have hlen : (xcells A n c (rowSt ps n 0) ++ [Value.slice b1 n3 r1, .slice b2 n3 r2, .int .i64 (sumTo ps b n3)]).length = 16 := by rw [List.length_append, xcells_length]; rfl
    have hinf16 : (Tryd.prog.info? 95).map (·.size) = some (xcells A n c (rowSt ps n 0) ++ [Value.slice b1 n3 r1, .slice b2 n3 r2, .int .i64 (sumTo ps b n3)]).length := by rw [hlen]; exact info_timed
    have HOL := Lib.hid (impl_opensLike (n2 := n3) (by omega) A n c (rowSt ps n 0) (sumTo ps b n3) w4 HPB4.out)
    rw [← t16_list] at HOL
    unfold t16 at hw4
    clear hb3 hpB hb34 hb24 hX4 hlen
    generalize xcells A n c (rowSt ps n 0) ++ [Value.slice b1 n3 r1, .slice b2 n3 r2, .int .i64 (sumTo ps b n3)] = cs at *
    go_wp2_with ((with_reducible show wpList _ _ _ _ _ _); rw [← hw4]; refine wpList_load_mid rfl 95 _ rfl w3.heap.size 0 rfl cs _ hrng Tryd.underlying95 rfl hinf16 ?_)
    rw [← hw4]
    refine HOL.out.mono ?_
    clear hw4 hrng
    rintro e w5 ⟨rfl, hcell, hlt5, hb5⟩
    obtain ⟨g1, rfl, hg1a, hg1b⟩ := HPH4.out.some (by omega)
    obtain ⟨g2, rfl, hg2a, hg2b⟩ : ∃ g, a2 = some ⟨g, 0, none⟩ ∧ w0.heap.size ≤ g ∧ g < w4.heap.size := by
      obtain ⟨g, rfl⟩ : ∃ g, a2 = some ⟨g, 0, none⟩ := by
        rcases HPH4.out.2.2 with ⟨q, _⟩ | ⟨g, cap, cur, hv, _⟩
        · injection q; omega
        · injection hv with h1 h2 h3; exact ⟨_, h1⟩
      exact ⟨g, rfl, ownr_block HPH4.out.2 _ rfl⟩
    have HP5 := Lib.hid (HPH4.out.below hb5)
    have HX5 := Lib.hid ((hb5.block _ (by omega)).trans HXA.out)
    have HB5 := Lib.hid (HB0.out.trans ((HB4.out.trans (hb5.mono HB4.out.size)).mono HB0.out.size))
    have HO5 := Lib.hid (HO0.out.below (HB4.out.trans (hb5.mono HB4.out.size)))
    have hs5 := hb5.size
    have HCAP := Lib.hid hcell
    have HCELL : Hid (∀ x v, KeptR w5 x w.heap.size w.heap.size (.slice (some ⟨w.heap.size, 0, none⟩) 0 0) v → ∀ blk off u, w5.cell? ⟨blk, off, none⟩ = some u → w0.heap.size ≤ blk → blk < w5.heap.size → x.cell? ⟨blk, off, none⟩ = some u) := Lib.hid (fun x v hk blk off u hu h1 h2 => by
      rw [World.cell?_of_block (hk.block blk h2 (by omega) (by simp [Value.ownBlock]; omega))]
      exact hu)
    have x13 : w5.cell? ⟨w1.heap.size, 13, none⟩ = some (.slice (some ⟨g1, 0, none⟩) n2 q1) := by rw [cell_of_row w5 w1.heap.size 13 _ _ _ HX5.out]; rfl
    have HX14 : Hid (w5.cell? ⟨w1.heap.size, 14, none⟩ = some (.slice (some ⟨g2, 0, none⟩) n2 q2)) := Lib.hid (by rw [cell_of_row w5 w1.heap.size 14 _ _ _ HX5.out]; rfl)
    have lt9 : w1.heap.size < w5.heap.size := by omega
    have HLO : Hid (swTo ps a b 0 = []) := Lib.hid rfl
    clear hb5 hcell
    go_wp2
    go_loopw [7, 41] (fun v i wr => ∃ k : Nat, k ≤ n2 ∧ i = .int .i64 k ∧ Own .i64 3 wr w.heap.size v (swTo ps a b k) ∧ KeptR w5 wr w.heap.size w.heap.size (.slice (some ⟨w.heap.size, 0, none⟩) 0 0) v) (fun _ i _ => n2 - (intOf i).toNat)
    case atStart => exact ⟨0, Nat.zero_le _, rfl, by rw [HLO.out]; exact HO5.out, KeptR.refl _ _ _ _⟩
    case round =>
      clear x13
      obtain ⟨k, hk, rfl, hown, hkep⟩ := hrel
      have HOW := Lib.hid hown
      have HK := Lib.hid hkep
      have hsz := hkep.below.size
      have hln := swTo_len ps a b k
      clear hown hkep
      by_cases hlt : k < n2
      · have hce := fun d hd => HP5.out.cells hlt d hd
        have e0 := HCELL.out wr _ HK.out g1 (k * 5) (.int .u16 (maskL ps (prAt a k).stage : Nat)) (hce 0 (by decide)) (by omega) (by omega)
        have e1 := HCELL.out wr _ HK.out g1 (k * 5 + 1) (.int .u16 (maskL ps (prAt a (nextJ a k)).stage : Nat)) (hce 1 (by decide)) (by omega) (by omega)
        have e2 := HCELL.out wr _ HK.out g1 (k * 5 + 2) (.int .i64 (prAt a k).green) (hce 2 (by decide)) (by omega) (by omega)
        have e3 := HCELL.out wr _ HK.out g1 (k * 5 + 3) (.int .i64 (clrAt ps a k)) (hce 3 (by decide)) (by omega) (by omega)
        have e4 := HCELL.out wr _ HK.out g1 (k * 5 + 4) (.int .i64 (leastG ps (prAt a k).stage)) (hce 4 (by decide)) (by omega) (by omega)
        have HST : Hid (w5.cell? ⟨g2, k, none⟩ = some (.int .i64 (sumTo ps a k))) := Lib.hid (row_cell HP5.out.2 (by rw [List.getElem?_map]; unfold begTo; rw [List.getElem?_map, List.getElem?_range hlt]; rfl))
        have HSK := Lib.hid (HSAME.out k hlt)
        have HY := Lib.hid (fun hh => swTo_yes (ps := ps) (a := a) (b := b) (k := k) hh)
        have HN := Lib.hid (fun hh => swTo_no (ps := ps) (a := a) (b := b) (k := k) hh)
        have i1 : (0 : Int) ≤ (k : Int) := by omega
        have i2 : (k : Int) < (n2 : Int) := by omega
        clear hce
        generalize leastG ps (prAt a k).stage = le at *
        generalize clrAt ps a k = cl at *
        generalize maskL ps (prAt a (nextJ a k)).stage = mx at *
        generalize maskL ps (prAt a k).stage = mo at *
        generalize (prAt a k).green = gr at *
        generalize maskL ps (prAt b 0).stage = mb at *
        generalize sumTo ps a k = sk at *
        obtain ⟨wf, hwf⟩ : ∃ wf, wf = wr.alloc (.cells #[.int .u16 (mo : Nat), .int .u16 (mx : Nat), .int .i64 gr, .int .i64 cl, .int .i64 le] 114) := ⟨_, rfl⟩
        have hbf : Below wr.heap.size wr wf := by rw [hwf]; exact (Below.refl _ _).alloc (Nat.le_refl _) _
        have HKF := Lib.hid (HK.out.trans (KeptR.of_below (v := _) hbf (Nat.le_trans HB5.out.size hsz)))
        have HOF := Lib.hid (HOW.out.below hbf)
        have hszf : w5.heap.size ≤ wf.heap.size := HKF.out.below.size
        have hcap := HCELL.out wf _ HKF.out _ _ _ HCAP.out (by omega) (by omega)
        have HOP := Lib.hid (impl_opens mb (w4.heap.size + 1) mo mx gr cl le wf hcap (by omega))
        clear hbf hcap
        go_wp2_with fail
        rw [← hwf]
        refine HOP.out.mono ?_
        rintro e w6 ⟨rfl, hb6⟩
        clear hwf e0 e1 e2 e3 e4
        have HK6 := Lib.hid (HKF.out.trans (KeptR.of_below (v := _) hb6 (Nat.le_trans HB5.out.size hszf)))
        have HO6 := Lib.hid (HOF.out.below hb6)
        have hs6 : w5.heap.size ≤ w6.heap.size := HK6.out.below.size
        clear hb6
        by_cases hm : mo = mb
        · have HL := Lib.hid (HY.out (HSK.out.1 hm))
          rw [decide_eq_true hm]
          have s14 := HCELL.out w6 _ HK6.out _ _ _ HX14.out (by omega) (by omega)
          have sst := HCELL.out w6 _ HK6.out _ _ _ HST.out (by omega) (by omega)
          have hlo6 : w.heap.size ≤ w6.heap.size := Nat.le_trans HB5.out.size hs6
          have h16 : w1.heap.size < w6.heap.size := by omega
          have HOQ := HO6.out
          clear hm
          go_wp2_with (at_builtin; refine wpList_app1 rfl _ _ 23 rfl .i64 3 8 Tryd.underlying23 info_int1 w.heap.size _ _ rfl HOQ (by decide) (by omega) _ _ _ w6.heap.size hlo6 rfl (by simp) ?_; intro v7 w7 hown7 hgrow7 hat7)
          have HO7 : Hid (Own .i64 3 w7 w.heap.size v7 (swTo ps a b (k + 1))) := Lib.hid (by rw [HL.out]; exact hown7)
          have HK7 : Hid (KeptR w5 w7 w.heap.size w.heap.size (.slice (some ⟨w.heap.size, 0, none⟩) 0 0) v7) := Lib.hid (by
            have hh := keptr_grown HK6.out hgrow7 hat7
            exact ⟨HO6.out.push (Nat.le_refl _) (HK6.out.below.alloc hlo6 _) (by simp; omega) hgrow7, fun b hb hg hv => hh.1 b hb hv hg, hh.2⟩)
          clear hown7 hgrow7 hat7 HOQ s14 sst
          go_roundw
          case rel => exact ⟨k + 1, by omega, by go_num, HO7.out, HK7.out⟩
          case measure => simp [intOf]; omega
        · have HL := Lib.hid (HN.out (fun q => hm (HSK.out.2 q)))
          rw [decide_eq_false hm]
          clear hm
          go_wp2
          go_roundw
          case rel => exact ⟨k + 1, by omega, by go_num, by rw [HL.out]; exact HO6.out, HK6.out⟩
          case measure => simp [intOf]; omega
      · obtain rfl : k = n2 := by omega
        go_wp2
        go_ret
        exact ⟨_, rfl, by rw [HRS.out]; exact HOW.out, HB5.out.trans HK.out.below⟩

  ·
    have HR := Lib.hid (HR0.out (by rw [ha]; rfl))
    have TA := impl_timePlan_any HI.out
    have TB := fun x (hx : Below w0.heap.size w0 x) => impl_timePlan_any (HJ.out.below hx)
    rw [ha] at TA
    generalize isPlan ps b = ub at *
    unfold t16 at TA TB
    have HTA := Lib.hid TA
    have HTB := Lib.hid TB
    clear TA TB ha hs0 HR0 HI HJ
    go_enter Tryd.func30, Tryd.ntmps30
    go_wp2_with fail
    rw [← hw0]
    refine HTA.out.mono ?_
    rintro e w1 ⟨A', n', c', f, a1, m1, q1, a2, m2, q2, L, rfl, hb1⟩
    clear hw0
    obtain ⟨w2, hw2⟩ : ∃ w2, w2 = w1.alloc (.cells #[.slice A' n' c', .int .u16 (f 0 : Nat), .int .u16 (f 1 : Nat), .int .u16 (f 2 : Nat), .int .u16 (f 3 : Nat), .int .u16 (f 4 : Nat), .int .u16 (f 5 : Nat), .int .u16 (f 6 : Nat), .int .u16 (f 7 : Nat), .int .u16 (f 8 : Nat), .int .u16 (f 9 : Nat), .int .u16 (f 10 : Nat), .int .u16 (f 11 : Nat), .slice a1 m1 q1, .slice a2 m2 q2, .int .i64 (L)] 95) := ⟨_, rfl⟩
    have hb2 : Below w0.heap.size w0 w2 := by rw [hw2]; exact hb1.alloc hb1.size _
    have HB2 := Lib.hid hb2
    have HT2 := Lib.hid (HTB.out w2 hb2)
    clear hb1 hb2
    go_wp2_with fail
    rw [← hw2]
    refine HT2.out.mono ?_
    rintro e w3 ⟨A'', n'', c'', f', b1, s1, r1, b2, s2, r2, L', rfl, hb3⟩
    have HB3 := Lib.hid (HB2.out.trans (hb3.mono HB2.out.size))
    clear hb3 hw2
    go_wp2
    go_ret
    exact ⟨_, rfl, by rw [HR.out]; exact HO0.out.below (HB3.out.alloc HB3.out.size _), HB0.out.trans ((HB3.out.alloc HB3.out.size _).mono HB0.out.size)⟩

  ·
    have HR := Lib.hid (HR0.out (by rw [ha, hb]; rfl))
    have TA := impl_timePlan_any HI.out
    have TB := fun x (hx : Below w0.heap.size w0 x) => impl_timePlan_any (HJ.out.below hx)
    rw [ha] at TA
    rw [hb] at TB; clear hb
    unfold t16 at TA TB
    have HTA := Lib.hid TA
    have HTB := Lib.hid TB
    clear TA TB ha hs0 HR0 HI HJ
    go_enter Tryd.func30, Tryd.ntmps30
    go_wp2_with fail
    rw [← hw0]
    refine HTA.out.mono ?_
    rintro e w1 ⟨A', n', c', f, a1, m1, q1, a2, m2, q2, L, rfl, hb1⟩
    clear hw0
    obtain ⟨w2, hw2⟩ : ∃ w2, w2 = w1.alloc (.cells #[.slice A' n' c', .int .u16 (f 0 : Nat), .int .u16 (f 1 : Nat), .int .u16 (f 2 : Nat), .int .u16 (f 3 : Nat), .int .u16 (f 4 : Nat), .int .u16 (f 5 : Nat), .int .u16 (f 6 : Nat), .int .u16 (f 7 : Nat), .int .u16 (f 8 : Nat), .int .u16 (f 9 : Nat), .int .u16 (f 10 : Nat), .int .u16 (f 11 : Nat), .slice a1 m1 q1, .slice a2 m2 q2, .int .i64 (L)] 95) := ⟨_, rfl⟩
    have hb2 : Below w0.heap.size w0 w2 := by rw [hw2]; exact hb1.alloc hb1.size _
    have HB2 := Lib.hid hb2
    have HT2 := Lib.hid (HTB.out w2 hb2)
    clear hb1 hb2
    go_wp2_with fail
    rw [← hw2]
    refine HT2.out.mono ?_
    rintro e w3 ⟨A'', n'', c'', f', b1, s1, r1, b2, s2, r2, L', rfl, hb3⟩
    have HB3 := Lib.hid (HB2.out.trans (hb3.mono HB2.out.size))
    clear hb3 hw2
    go_wp2
    go_ret
    exact ⟨_, rfl, by rw [HR.out]; exact HO0.out.below (HB3.out.alloc HB3.out.size _), HB0.out.trans ((HB3.out.alloc HB3.out.size _).mono HB0.out.size)⟩

end Go.Proofs.YtcbccbefkpklkaaDoor
/- CanSwitch, SwitchAt: the model and the program. -/
namespace Go.Proofs.YtcbccbefkpklkaaDoor
open Go.RowKit
set_option linter.unusedVariables false

set_option maxHeartbeats 2000000 in
theorem spec_CanSwitch (A : Option Addr) (n c B : Nat) (ps : List Pth) (A2 : Option Addr) (n2 c2 B2 : Nat) (a : List Prt) (A3 : Option Addr) (n3 c3 B3 : Nat) (b : List Prt) (w : World) (h : PthsAt w B A n ps) (hB : B ≤ w.heap.size) (hn : n ≤ 4294967296) (h2 : PrtsAt w B2 A2 n2 a) (hB2 : B2 ≤ w.heap.size) (hn2 : n2 ≤ 1048576) (hm : ∀ j, j < n2 → (prAt a j).stage.length ≤ 1048576) (h3 : PrtsAt w B3 A3 n3 b) (hB3 : B3 ≤ w.heap.size) (hn3 : n3 ≤ 1048576) (hm3 : ∀ j, j < n3 → (prAt b j).stage.length ≤ 1048576) :
    Calls Tryd.prog 39 #[.slice A n c, .slice A2 n2 c2, .slice A3 n3 c3] w fun e w' => e = .returned (.bool (canSw ps a b)) ∧ Below w.heap.size w w' := by
  have HC := Lib.hid (spec_SwitchSeconds A n c B ps A2 n2 c2 B2 a A3 n3 c3 B3 b w h hB hn h2 hB2 hn2 hm h3 hB3 hn3 hm3)
  clear h h2 h3 hm hm3
  go_enter Tryd.func39, Tryd.ntmps39
  go_wp2_with fail
  refine HC.out.mono ?_
  rintro e w1 ⟨v, rfl, ho, hb⟩
  obtain ⟨Av, cv, rfl⟩ := ho.sliced
  have e1 : decide ((0 : Int) < ((swP ps a b).length : Int)) = canSw ps a b := decide_eq_decide.2 (by omega)
  clear ho
  go_wp2
  go_ret
  exact ⟨by first | rw [← e1]; rfl | (unfold canSw; simp), hb⟩
set_option maxHeartbeats 2000000 in
theorem impl_CanSwitch {w : World} {A : Option Addr} {n c B : Nat} {ps : List Pth} {A2 : Option Addr} {n2 c2 B2 : Nat} {a : List Prt} {A3 : Option Addr} {n3 c3 B3 : Nat} {b : List Prt} (I : PlnIn w A n c B ps A2 n2 c2 B2 a) (J : PlnIn w A n c B ps A3 n3 c3 B3 b) :
    Calls Tryd.prog 40 #[.slice A n c, .slice A2 n2 c2, .slice A3 n3 c3] w fun e w' => e = .returned (.bool (canSw ps a b)) ∧ Below w.heap.size w w' := by
  have HC := Lib.hid (impl_SwitchSeconds I J)
  clear I J
  go_enter Tryd.func40, Tryd.ntmps40
  go_wp2_with fail
  refine HC.out.mono ?_
  rintro e w1 ⟨v, rfl, ho, hb⟩
  obtain ⟨Av, cv, rfl⟩ := ho.sliced
  have e1 : decide ((0 : Int) < ((swP ps a b).length : Int)) = canSw ps a b := decide_eq_decide.2 (by omega)
  clear ho
  go_wp2
  go_ret
  exact ⟨by first | rw [← e1]; rfl | (unfold canSw; simp), hb⟩
set_option maxHeartbeats 4000000 in
theorem spec_SwitchAt (A : Option Addr) (n c B : Nat) (ps : List Pth) (A2 : Option Addr) (n2 c2 B2 : Nat) (a : List Prt) (A3 : Option Addr) (n3 c3 B3 : Nat) (b : List Prt) (f : Int) (w : World) (h : PthsAt w B A n ps) (hB : B ≤ w.heap.size) (hn : n ≤ 4294967296) (h2 : PrtsAt w B2 A2 n2 a) (hB2 : B2 ≤ w.heap.size) (hn2 : n2 ≤ 1048576) (hm : ∀ j, j < n2 → (prAt a j).stage.length ≤ 1048576) (h3 : PrtsAt w B3 A3 n3 b) (hB3 : B3 ≤ w.heap.size) (hn3 : n3 ≤ 1048576) (hm3 : ∀ j, j < n3 → (prAt b j).stage.length ≤ 1048576) :
    Calls Tryd.prog 35 #[.slice A n c, .slice A2 n2 c2, .slice A3 n3 c3, .int .i64 f] w fun e w' => e = .returned (.int .i64 (swAtP ps a b f)) ∧ Below w.heap.size w w' := by
  have HC := Lib.hid (spec_SwitchSeconds A n c B ps A2 n2 c2 B2 a A3 n3 c3 B3 b w h hB hn h2 hB2 hn2 hm h3 hB3 hn3 hm3)
  have HCY := Lib.hid (fun x (hx : Below w.heap.size w x) => spec_Cycle A n c B ps A2 n2 c2 B2 a x (h.below (hx.mono hB)) (Nat.le_trans hB hx.size) hn (h2.below hB2 hx) (Nat.le_trans hB2 hx.size) hn2 hm)
  clear h h2 h3 hm hm3
  by_cases h0 : (swP ps a b).length = 0
  · have HR := Lib.hid (swAtP_none (f := f) h0)
    go_enter Tryd.func35, Tryd.ntmps35
    go_wp2_with fail
    refine HC.out.mono ?_
    rintro e w1 ⟨v, rfl, ho, hb⟩
    obtain ⟨Av, cv, rfl⟩ := ho.sliced
    rw [h0]
    clear ho h0
    go_wp2
    go_ret
    exact ⟨by rw [HR.out]; try rfl, hb⟩
  cases hf : inB f 0 100000
  · have HR := Lib.hid (swAtP_off (ps := ps) (a := a) (b := b) hf)
    have HF := Lib.hid hf
    have e0 : (((swP ps a b).length : Int) == 0) = false := beq_eq_false_iff_ne.2 (by omega)
    clear hf
    go_enter Tryd.func35, Tryd.ntmps35
    go_wp2_with fail
    refine HC.out.mono ?_
    rintro e w1 ⟨v, rfl, ho, hb⟩
    obtain ⟨Av, cv, rfl⟩ := ho.sliced
    clear ho
    go_wp2_with fail
    refine (spec_l1In _ _ _ _).mono ?_
    rw [HF.out]
    rintro e w2 ⟨rfl, rfl⟩
    go_wp2
    go_ret
    exact ⟨by rw [HR.out]; try rfl, hb⟩
  · have hfb := inB_t hf
    have HR := Lib.hid (swAtP_on h0 hf)
    have HF := Lib.hid hf
    have hpl := swP_plan h0
    have hcb := cycle_bound hpl
    have HIN := Lib.hid (swP_in (ps := ps) (a := a) (b := b))
    have hne : swP ps a b ≠ [] := fun e => h0 (by rw [e]; rfl)
    have HW := Lib.hid (fun t (hno : ∀ u, f ≤ u → u < t → hasI (swP ps a b) (u % cycleP ps a) = false) => sw_within (f := f) (t := t) (by omega) HIN.out hne hno)
    have HFI := Lib.hid (fun t hft hno hy => sw_first (f := f) (t := t) (n := cycleP ps a) (zs := swP ps a b) (by omega) HIN.out hft hno hy)
    have hl6 := swP_len ps a b
    have e0 : (((swP ps a b).length : Int) == 0) = false := beq_eq_false_iff_ne.2 (by omega)
    clear hf hpl hne
    generalize swP ps a b = zs at *
    generalize cycleP ps a = cy at *
    go_enter Tryd.func35, Tryd.ntmps35
    go_wp2_with fail
    refine HC.out.mono ?_
    rintro e w1 ⟨v, rfl, ho, hb⟩
    obtain ⟨Av, cv, rfl⟩ := ho.sliced
    have HO := Lib.hid ho
    have HB := Lib.hid hb
    clear ho hb
    go_wp2_with fail
    refine (spec_l1In _ _ _ _).mono ?_
    rw [HF.out]
    rintro e w2 ⟨rfl, rfl⟩
    go_wp2_with fail
    refine (HCY.out _ HB.out).mono ?_
    rintro e w2 ⟨rfl, hb2⟩
    have HO2 := Lib.hid (HO.out.below hb2)
    have HB2 := Lib.hid (HB.out.trans (hb2.mono HB.out.size))
    clear hb2
    go_wp2
    go_loopw [11] (fun i wr => ∃ t : Int, i = .int .i64 t ∧ f ≤ t ∧ (∀ u, f ≤ u → u < t → hasI zs (u % cy) = false) ∧ w2 = wr) (fun i _ => (f + cy - intOf i).toNat)
    case atStart => exact ⟨f, rfl, Int.le_refl _, fun u h1 h2 => absurd h2 (by omega), rfl⟩
    case round =>
      obtain ⟨t, rfl, hft, hno, rfl⟩ := hrel
      have hw := HW.out t hno
      have HNO := Lib.hid hno
      have z2 : ¬ cy = 0 := by omega
      have em : t.tmod cy = t % cy := Int.tmod_eq_emod_of_nonneg (by omega)
      have HH := Lib.hid (spec_l6Has Av zs.length cv _ zs (t % cy) w2 HO2.out.ints (by omega))
      have e5 : IntKind.i64.wrap (t + 1) = t + 1 := by rw [IntKind.wrap_i64]; omega
      clear hno
      go_wp2_with fail
      refine HH.out.mono ?_
      cases hh : hasI zs (t % cy)
      · have HN2 : Hid (∀ u, f ≤ u → u < t + 1 → hasI zs (u % cy) = false) := Lib.hid (fun u h1 h2 => by
          by_cases q : u = t
          · rw [q]; exact hh
          · exact HNO.out u h1 (by omega))
        clear hh
        rintro e w3 ⟨rfl, rfl⟩
        go_wp2
        go_roundw
        case rel => exact ⟨t + 1, rfl, by omega, HN2.out, trivial⟩
        case measure => simp [intOf]; omega
      · have HE := Lib.hid (HR.out.trans (HFI.out t hft HNO.out hh))
        clear hh
        rintro e w3 ⟨rfl, rfl⟩
        go_wp2
        go_ret
        exact ⟨by rw [HE.out]; try rfl, HB2.out⟩
/-- what goes round leaves of the seconds. -/
def swMap (f cy : Int) (zs : List Int) (k : Nat) : List Int := (zs.take k).map (fun s => f + comeIn cy f s) ++ zs.drop k
theorem swMap_zero (f cy : Int) (zs : List Int) : swMap f cy zs 0 = zs := by simp [swMap]
theorem swMap_full (f cy : Int) (zs : List Int) : swMap f cy zs zs.length = zs.map fun s => f + comeIn cy f s := by simp [swMap]
theorem swMap_len (f cy : Int) (zs : List Int) (k : Nat) : (swMap f cy zs k).length = zs.length := by
  unfold swMap
  rw [List.length_append, List.length_map, List.length_take, List.length_drop]
  omega
theorem swMap_at {f cy : Int} {zs : List Int} {k : Nat} (h : k < zs.length) : (swMap f cy zs k).getD k 0 = zs.getD k 0 := by
  unfold swMap
  rw [List.getD_eq_getElem?_getD, List.getElem?_append_right (by rw [List.length_map, List.length_take]; omega), List.length_map, List.length_take, Nat.min_eq_left (by omega), Nat.sub_self, List.getElem?_drop, Nat.add_zero, ← List.getD_eq_getElem?_getD]
theorem swMap_set {f cy : Int} {zs : List Int} {k : Nat} (h : k < zs.length) : (swMap f cy zs k).set k (f + comeIn cy f (zs.getD k 0)) = swMap f cy zs (k + 1) := by
  unfold swMap
  have hz : zs.getD k 0 = zs[k] := by rw [List.getD_eq_getElem?_getD, List.getElem?_eq_getElem h]; rfl
  rw [List.set_append_right _ _ (by rw [List.length_map, List.length_take]; omega), List.length_map, List.length_take, Nat.min_eq_left (by omega), Nat.sub_self, List.drop_eq_getElem_cons h, List.set_cons_zero, List.take_succ_eq_append_getElem h, List.map_append, List.append_assoc, hz]
  rfl
/-- the least of the first k + 1. -/
def lowL (zs : List Int) : Nat → Int
  | 0 => zs.getD 0 0
  | k + 1 => minI (lowL zs k) (zs.getD (k + 1) 0)
theorem lowL_mem {zs : List Int} : ∀ k, k < zs.length → lowL zs k ∈ zs
  | 0, h => by
    show zs.getD 0 0 ∈ zs
    rw [List.getD_eq_getElem?_getD, List.getElem?_eq_getElem h]
    exact List.getElem_mem h
  | k + 1, h => by
    have ih := lowL_mem (zs := zs) k (by omega)
    show minI _ _ ∈ zs
    unfold minI
    split
    · first | exact ih | (rw [List.getD_eq_getElem?_getD, List.getElem?_eq_getElem h]; exact List.getElem_mem h)
    · first | exact ih | (rw [List.getD_eq_getElem?_getD, List.getElem?_eq_getElem h]; exact List.getElem_mem h)
theorem lowL_le {zs : List Int} : ∀ k j, j ≤ k → lowL zs k ≤ zs.getD j 0
  | 0, j, h => by
    obtain rfl : j = 0 := by omega
    exact Int.le_refl _
  | k + 1, j, h => by
    show minI _ _ ≤ _
    by_cases e : j = k + 1
    · subst e
      unfold minI; split <;> omega
    · have ih := lowL_le (zs := zs) k j (by omega)
      unfold minI; split <;> omega
theorem lowL_least {zs : List Int} (h : zs ≠ []) : lowL zs (zs.length - 1) = leastL zs := by
  have hl : 0 < zs.length := List.length_pos_iff.2 h
  have h1 := leastL_le (lowL_mem (zs := zs) (zs.length - 1) (by omega))
  obtain ⟨j, hj, e⟩ := List.getElem_of_mem (leastL_mem h)
  have h2 := lowL_le (zs := zs) (zs.length - 1) j (by omega)
  rw [List.getD_eq_getElem?_getD, List.getElem?_eq_getElem hj, e] at h2
  have h3 : lowL zs (zs.length - 1) ≤ leastL zs := h2
  omega
set_option maxHeartbeats 1000000 in
theorem impl_sMin (A : Option Addr) (n c B : Nat) (zs : List Int) (w : World) (h : IntsAt .i64 w B A n zs) (h0 : 0 < n) (hn : n ≤ 1000000) :
    Calls Tryd.prog 86 #[.slice A n c] w fun e w' => e = .returned (.int .i64 (leastL zs)) ∧ w = w' := by
  have hl := h.1
  have HR : Hid (lowL zs (n - 1) = leastL zs) := Lib.hid (by rw [← hl]; exact lowL_least (fun e => by rw [e] at hl; simp at hl; omega))
  obtain ⟨ad, rfl, hab, hcell⟩ := h.2 h0
  have hc0 : w.cell? ad = some (.int .i64 (zs.getD 0 0)) := hcell 0 h0
  have HC := Lib.hid hcell
  have H0 : Hid (lowL zs 0 = zs.getD 0 0) := Lib.hid rfl
  have HS : Hid (∀ k, lowL zs (k + 1) = minI (lowL zs k) (zs.getD (k + 1) 0)) := Lib.hid (fun k => rfl)
  have n1 : ¬ (n : Int) < 1 := by omega
  have n2 : (0 : Int) < (n : Int) := by omega
  clear h hcell hl
  go_enter Tryd.func86, Tryd.ntmps86
  go_wp2
  go_loopw [3, 4] (fun x i wr => ∃ k : Nat, k + 1 ≤ n ∧ i = .int .i64 ((k : Int) + 1) ∧ x = .int .i64 (lowL zs k) ∧ w = wr) (fun _ i _ => n - (intOf i).toNat)
  case atStart => exact ⟨0, by omega, by simp, by rw [H0.out]; try rfl, rfl⟩
  case round =>
    obtain ⟨k, hk, rfl, rfl, rfl⟩ := hrel
    by_cases hlt : k + 1 < n
    · have hc := HC.out (k + 1) hlt
      have HSK := Lib.hid (HS.out k)
      have ek : (k : Int) + 1 = ((k + 1 : Nat) : Int) := by omega
      rw [ek]
      generalize zs.getD (k + 1) 0 = z at *
      generalize lowL zs k = q at *
      have i1 : (0 : Int) ≤ ((k + 1 : Nat) : Int) := by omega
      have i2 : ((k + 1 : Nat) : Int) < (n : Int) := by omega
      generalize k + 1 = m at *
      go_wp2
      go_roundw
      case rel => exact ⟨m, by omega, rfl, by rw [HSK.out]; unfold minI; try rfl, trivial⟩
      case measure => simp [intOf]; omega
    · obtain rfl : k + 1 = n := by omega
      have HR2 : Hid (lowL zs k = leastL zs) := Lib.hid HR.out
      go_wp2
      go_ret
      exact ⟨by rw [HR2.out]; try rfl, rfl⟩
set_option maxHeartbeats 4000000 in
set_option maxRecDepth 100000 in
theorem impl_SwitchAt {w : World} {A : Option Addr} {n c B : Nat} {ps : List Pth} {A2 : Option Addr} {n2 c2 B2 : Nat} {a : List Prt} {A3 : Option Addr} {n3 c3 B3 : Nat} {b : List Prt} (I : PlnIn w A n c B ps A2 n2 c2 B2 a) (J : PlnIn w A n c B ps A3 n3 c3 B3 b) (f : Int) :
    Calls Tryd.prog 36 #[.slice A n c, .slice A2 n2 c2, .slice A3 n3 c3, .int .i64 f] w fun e w' => e = .returned (.int .i64 (swAtP ps a b f)) ∧ Below w.heap.size w w' := by
  have HC := Lib.hid (impl_SwitchSeconds I J)
  have HCY := Lib.hid (fun x (hx : Below w.heap.size w x) => impl_Cycle (I.below hx))
  clear I J
  by_cases h0 : (swP ps a b).length = 0
  · have HR := Lib.hid (swAtP_none (f := f) h0)
    go_enter Tryd.func36, Tryd.ntmps36
    go_wp2_with fail
    refine HC.out.mono ?_
    rintro e w1 ⟨v, rfl, ho, hb⟩
    obtain ⟨Av, cv, rfl⟩ := ho.sliced
    rw [h0]
    clear ho h0
    go_wp2
    go_ret
    exact ⟨by rw [HR.out]; try rfl, hb⟩
  cases hf : inB f 0 100000
  · have HR := Lib.hid (swAtP_off (ps := ps) (a := a) (b := b) hf)
    have HF := Lib.hid hf
    have e0 : (((swP ps a b).length : Int) == 0) = false := beq_eq_false_iff_ne.2 (by omega)
    clear hf
    go_enter Tryd.func36, Tryd.ntmps36
    go_wp2_with fail
    refine HC.out.mono ?_
    rintro e w1 ⟨v, rfl, ho, hb⟩
    obtain ⟨Av, cv, rfl⟩ := ho.sliced
    clear ho
    go_wp2_with fail
    refine (impl_InRange _ _ _ _).mono ?_
    rw [HF.out]
    rintro e w2 ⟨rfl, rfl⟩
    go_wp2
    go_ret
    exact ⟨by rw [HR.out]; try rfl, hb⟩
  · have hfb := inB_t hf
    have HR := Lib.hid (swAtP_on h0 hf)
    have HF := Lib.hid hf
    have hcb := cycle_bound (swP_plan h0)
    have HIN := Lib.hid (swP_in (ps := ps) (a := a) (b := b))
    have hl6 := swP_len ps a b
    have e0 : (((swP ps a b).length : Int) == 0) = false := beq_eq_false_iff_ne.2 (by omega)
    clear hf
    generalize swP ps a b = zs at *
    generalize cycleP ps a = cy at *
    obtain ⟨m, hm⟩ : ∃ m, m = zs.length := ⟨_, rfl⟩
    have HM := Lib.hid hm
    rw [← hm] at h0 hl6 e0
    go_enter Tryd.func36, Tryd.ntmps36
    go_wp2_with fail
    refine HC.out.mono ?_
    rintro e w1 ⟨v, rfl, ho, hb⟩
    obtain ⟨Av, cv, rfl⟩ := ho.sliced
    have HO := Lib.hid ho
    have HB := Lib.hid hb
    rw [← hm] at HO ⊢
    clear ho hb hm
    go_wp2_with fail
    refine (impl_InRange _ _ _ _).mono ?_
    rw [HF.out]
    rintro e w2 ⟨rfl, rfl⟩
    go_wp2_with fail
    refine (HCY.out _ HB.out).mono ?_
    rintro e w2 ⟨rfl, hb2⟩
    have HO2 := Lib.hid (HO.out.below hb2)
    have HB2 := Lib.hid (HB.out.trans (hb2.mono HB.out.size))
    obtain ⟨gv, rfl⟩ : ∃ g, Av = some ⟨g, 0, none⟩ := by
      rcases HO2.out.2 with ⟨q, _⟩ | ⟨g, cap, cur, hv, _⟩
      · injection q; omega
      · injection hv with h1 h2 h3; exact ⟨_, h1⟩
    have hgv := (HO2.out.block gv rfl).1
    clear hb2
    go_wp2
    go_loopw [30] (fun i wr => ∃ k : Nat, k ≤ m ∧ i = .int .i64 k ∧ Own .i64 3 wr w.heap.size (.slice (some ⟨gv, 0, none⟩) m cv) (swMap f cy zs k) ∧ Below w.heap.size w wr) (fun i _ => m - (intOf i).toNat)
    case atStart => exact ⟨0, Nat.zero_le _, rfl, by rw [swMap_zero]; exact HO2.out, HB2.out⟩
    case round =>
      clear HO HB HO2 HB2
      obtain ⟨k, hk, rfl, hown, hbl⟩ := hrel
      have HBL := Lib.hid hbl
      have hlen := swMap_len f cy zs k
      rw [← HM.out] at hlen
      by_cases hlt : k < m
      · have hzk : k < zs.length := by have := HM.out; omega
        have hv := HIN.out (zs.getD k 0) (by rw [List.getD_eq_getElem?_getD, List.getElem?_eq_getElem hzk]; exact List.getElem_mem hzk)
        have hc := hown.cell k (by omega)
        rw [swMap_at hzk] at hc
        have hf9 := hown.free k
        have hst := hown.stored k (f + comeIn cy f (zs.getD k 0))
        rw [swMap_set hzk] at hst
        have HST := Lib.hid hst
        have HMD : Hid (modI (zs.getD k 0 - f) cy = comeIn cy f (zs.getD k 0)) := Lib.hid (by
          unfold modI comeIn
          have : inB cy 1 1000000000000 = true := by unfold inB; simp; omega
          rw [this]
          rfl)
        have hco := come_bound (n := cy) (f := f) (s := zs.getD k 0) (by omega)
        have i1 : (0 : Int) ≤ (k : Int) := by omega
        have i2 : (k : Int) < (m : Int) := by omega
        clear hst hown hbl
        generalize comeIn cy f (zs.getD k 0) = q at *
        generalize zs.getD k 0 = z at *
        have e7 : IntKind.i64.wrap (z - f) = z - f := by rw [IntKind.wrap_i64]; omega
        have e8 : IntKind.i64.wrap (f + q) = f + q := by rw [IntKind.wrap_i64]; omega
        go_wp2_with fail
        refine (impl_Mod _ _ _).mono ?_
        rw [HMD.out]
        rintro e w3 ⟨rfl, rfl⟩
        go_wp2
        go_roundw
        case rel => exact ⟨k + 1, by omega, by go_num, HST.out, HBL.out.setCell hgv _⟩
        case measure => simp [intOf]; omega
      · obtain rfl : k = m := by omega
        have hne : zs ≠ [] := fun e => h0 (by rw [HM.out, e]; rfl)
        have HFU : Hid (swMap f cy zs k = zs.map fun s => f + comeIn cy f s) := Lib.hid (by rw [HM.out]; exact swMap_full f cy zs)
        have HSM := Lib.hid (impl_sMin (some ⟨gv, 0, none⟩) k cv _ _ wr hown.ints (by omega) (by omega))
        go_wp2_with fail
        refine HSM.out.mono ?_
        rw [HFU.out, ← HR.out]
        rintro e w3 ⟨rfl, rfl⟩
        go_wp2
        go_ret
        exact ⟨rfl, HBL.out⟩
end Go.Proofs.YtcbccbefkpklkaaDoor

/- LightAfter: the model and the program. -/
namespace Go.Proofs.YtcbccbefkpklkaaDoor
open Go.RowKit
set_option linter.unusedVariables false

set_option maxHeartbeats 2000000 in
theorem spec_LightAfter (A : Option Addr) (n c B : Nat) (ps : List Pth) (A2 : Option Addr) (n2 c2 B2 : Nat) (a : List Prt) (A3 : Option Addr) (n3 c3 B3 : Nat) (b : List Prt) (t s id : Int) (w : World) (h : PthsAt w B A n ps) (hB : B ≤ w.heap.size) (hn : n ≤ 4294967296) (h2 : PrtsAt w B2 A2 n2 a) (hB2 : B2 ≤ w.heap.size) (hn2 : n2 ≤ 1048576) (hm : ∀ j, j < n2 → (prAt a j).stage.length ≤ 1048576) (h3 : PrtsAt w B3 A3 n3 b) (hB3 : B3 ≤ w.heap.size) (hn3 : n3 ≤ 1048576) (hm3 : ∀ j, j < n3 → (prAt b j).stage.length ≤ 1048576) :
    Calls Tryd.prog 37 #[.slice A n c, .slice A2 n2 c2, .slice A3 n3 c3, .int .i64 t, .int .i64 s, .int .i64 id] w fun e w' => e = .returned (.int .i64 (afterP ps a b t s id)) ∧ Below w.heap.size w w' := by
  have HA := Lib.hid (spec_LightAt A n c B ps A2 n2 c2 B2 a s id w h hB hn h2 hB2 hn2 hm)
  have HBB := Lib.hid (fun x => spec_LightAt A n c B ps A3 n3 c3 B3 b x id w h hB hn h3 hB3 hn3 hm3)
  have HOF := Lib.hid (fun hh => afterP_off (ps := ps) (a := a) (b := b) (t := t) (s := s) (id := id) hh)
  have HON := Lib.hid (fun hh hh2 => afterP_on (ps := ps) (a := a) (b := b) (t := t) (s := s) (id := id) hh hh2)
  clear h h2 h3 hm hm3
  cases h1 : inB t 0 200000
  · have HR := Lib.hid (HOF.out (by rw [h1]; rfl))
    have H1 := Lib.hid h1
    clear h1
    go_enter Tryd.func37, Tryd.ntmps37
    go_wp2_with fail
    refine (spec_l1In _ _ _ _).mono ?_
    rw [H1.out]
    rintro e w1 ⟨rfl, rfl⟩
    go_wp2
    go_ret
    exact ⟨by rw [HR.out]; try rfl, Below.refl _ _⟩
  · cases h2 : inB s 0 1000000
    · have HR := Lib.hid (HOF.out (by rw [h1, h2]; rfl))
      have H1 := Lib.hid h1
      have H2 := Lib.hid h2
      clear h1 h2
      go_enter Tryd.func37, Tryd.ntmps37
      go_wp2_with fail
      refine (spec_l1In _ _ _ _).mono ?_
      rw [H1.out]
      rintro e w1 ⟨rfl, rfl⟩
      go_wp2_with fail
      refine (spec_l1In _ _ _ _).mono ?_
      rw [H2.out]
      rintro e w1 ⟨rfl, rfl⟩
      go_wp2
      go_ret
      exact ⟨by rw [HR.out]; try rfl, Below.refl _ _⟩
    · have hb1 := inB_t h1
      have hb2 := inB_t h2
      have HR := Lib.hid (HON.out h1 h2)
      have H1 := Lib.hid h1
      have H2 := Lib.hid h2
      clear h1 h2
      by_cases hlt : s < t
      · have HR2 := Lib.hid (HR.out.trans (if_pos hlt))
        go_enter Tryd.func37, Tryd.ntmps37
        go_wp2_with fail
        refine (spec_l1In _ _ _ _).mono ?_
        rw [H1.out]
        rintro e w1 ⟨rfl, rfl⟩
        go_wp2_with fail
        refine (spec_l1In _ _ _ _).mono ?_
        rw [H2.out]
        rintro e w1 ⟨rfl, rfl⟩
        go_wp2_with fail
        refine HA.out.mono ?_
        rintro e w2 ⟨rfl, hb⟩
        go_wp2
        go_ret
        exact ⟨by rw [HR2.out]; try rfl, hb⟩
      · have HR2 := Lib.hid (HR.out.trans (if_neg hlt))
        have e1 : IntKind.i64.wrap (s - t) = s - t := by rw [IntKind.wrap_i64]; omega
        go_enter Tryd.func37, Tryd.ntmps37
        go_wp2_with fail
        refine (spec_l1In _ _ _ _).mono ?_
        rw [H1.out]
        rintro e w1 ⟨rfl, rfl⟩
        go_wp2_with fail
        refine (spec_l1In _ _ _ _).mono ?_
        rw [H2.out]
        rintro e w1 ⟨rfl, rfl⟩
        go_wp2_with fail
        refine (HBB.out _).mono ?_
        rintro e w2 ⟨rfl, hb⟩
        go_wp2
        go_ret
        exact ⟨by rw [HR2.out]; try rfl, hb⟩
set_option maxHeartbeats 1000000 in
theorem impl_changed (A2 : Option Addr) (n2 c2 : Nat) (A3 : Option Addr) (n3 c3 : Nat) (t s : Int) (g : Nat) (w : World) (h0 : w.cell? ⟨g, 0, none⟩ = some (.slice A2 n2 c2)) (h1 : w.cell? ⟨g + 1, 0, none⟩ = some (.slice A3 n3 c3)) (h2 : w.cell? ⟨g + 1 + 1, 0, none⟩ = some (.int .i64 t)) (hg : g + 1 + 1 < w.heap.size) (hb : 0 ≤ t ∧ t ≤ 200000) (hs : 0 ≤ s ∧ s ≤ 1000000) :
    Calls Tryd.prog 133 #[.int .i64 s, .pointer (some ⟨g + 1 + 1, 0, none⟩), .pointer (some ⟨g, 0, none⟩), .pointer (some ⟨g + 1, 0, none⟩)] w fun e w' => e = .returned (if s < t then .tuple #[.slice A2 n2 c2, .int .i64 s] else .tuple #[.slice A3 n3 c3, .int .i64 (s - t)]) ∧ Below w.heap.size w w' := by
  have l0 : g < w.heap.size := by omega
  have l1 : g + 1 < w.heap.size := by omega
  have e1 : IntKind.i64.wrap (s - t) = s - t := by rw [IntKind.wrap_i64]; omega
  by_cases hlt : s < t
  · rw [if_pos hlt]
    go_enter Tryd.func133, Tryd.ntmps133
    go_wp2
    go_ret2
    exact ⟨rfl, Below.refl _ _⟩
  · rw [if_neg hlt]
    go_enter Tryd.func133, Tryd.ntmps133
    go_wp2
    go_quiet (fail)
    go_wp2
    go_ret2
    exact ⟨rfl, belowN (Below.refl _ _) _⟩
set_option maxHeartbeats 1000000 in
theorem impl_changeAt (A2 : Option Addr) (n2 c2 : Nat) (A3 : Option Addr) (n3 c3 : Nat) (t : Int) (w : World) :
    Calls Tryd.prog 89 #[.slice A2 n2 c2, .slice A3 n3 c3, .int .i64 t] w fun e w' => e = .returned (.func (.func 133) #[] #[.pointer (some ⟨w.heap.size + 1 + 1, 0, none⟩), .pointer (some ⟨w.heap.size, 0, none⟩), .pointer (some ⟨w.heap.size + 1, 0, none⟩)]) ∧ w' = ((w.alloc (.cells #[.slice A2 n2 c2] 35)).alloc (.cells #[.slice A3 n3 c3] 35)).alloc (.cells #[.int .i64 t] 3) := by
  have hmf : ∀ (fn : Fn) (first cap : Array Value) (w : World), (Instr.makeFunc fn first cap).run Tryd.prog w = .ok (.func fn first cap) w := fun _ _ _ _ => rfl
  go_enter Tryd.func89, Tryd.ntmps89
  go_wp2
  go_ret
  exact ⟨rfl, rfl⟩
set_option maxHeartbeats 2000000 in
set_option maxRecDepth 100000 in
theorem impl_LightAfter {w : World} {A : Option Addr} {n c B : Nat} {ps : List Pth} {A2 : Option Addr} {n2 c2 B2 : Nat} {a : List Prt} {A3 : Option Addr} {n3 c3 B3 : Nat} {b : List Prt} (I : PlnIn w A n c B ps A2 n2 c2 B2 a) (J : PlnIn w A n c B ps A3 n3 c3 B3 b) (t s id : Int) :
    Calls Tryd.prog 38 #[.slice A n c, .slice A2 n2 c2, .slice A3 n3 c3, .int .i64 t, .int .i64 s, .int .i64 id] w fun e w' => e = .returned (.int .i64 (afterP ps a b t s id)) ∧ Below w.heap.size w w' := by
  have HOF := Lib.hid (fun hh => afterP_off (ps := ps) (a := a) (b := b) (t := t) (s := s) (id := id) hh)
  have HON := Lib.hid (fun hh hh2 => afterP_on (ps := ps) (a := a) (b := b) (t := t) (s := s) (id := id) hh hh2)
  obtain ⟨w3, hw3⟩ : ∃ w3, w3 = ((w.alloc (.cells #[.slice A2 n2 c2] 35)).alloc (.cells #[.slice A3 n3 c3] 35)).alloc (.cells #[.int .i64 t] 3) := ⟨_, rfl⟩
  obtain ⟨hk0, hk1, hk2, hsz, hBA⟩ := three_blocks hw3
  have HA := Lib.hid (fun w' (hw' : Below w.heap.size w w') => impl_LightAt (I.below hw') s id)
  have HBB := Lib.hid (fun x w' (hw' : Below w.heap.size w w') => impl_LightAt (J.below hw') x id)
  have HBA := Lib.hid hBA
  have m0 : w3.cell? ⟨w.heap.size, 0, none⟩ = some (.slice A2 n2 c2) := by rw [cell_of_row w3 _ 0 _ _ _ hk0]; rfl
  have m1 : w3.cell? ⟨w.heap.size + 1, 0, none⟩ = some (.slice A3 n3 c3) := by rw [cell_of_row w3 _ 0 _ _ _ hk1]; rfl
  have m2 : w3.cell? ⟨w.heap.size + 1 + 1, 0, none⟩ = some (.int .i64 t) := by rw [cell_of_row w3 _ 0 _ _ _ hk2]; rfl
  have HCH := Lib.hid (fun hb hs => impl_changed A2 n2 c2 A3 n3 c3 t s w.heap.size w3 m0 m1 m2 (by omega) hb hs)
  have HCA := Lib.hid (impl_changeAt A2 n2 c2 A3 n3 c3 t w)
  rw [← hw3] at HCA
  clear I J hk0 hk1 hk2 hBA m0 m1 m2 hw3 hsz
  cases h1 : inB t 0 200000
  · have HR := Lib.hid (HOF.out (by rw [h1]; rfl))
    have H1 := Lib.hid h1
    clear h1
    go_enter Tryd.func38, Tryd.ntmps38
    go_wp2_with fail
    refine (impl_InRange _ _ _ _).mono ?_
    rw [H1.out]
    rintro e w1 ⟨rfl, rfl⟩
    go_wp2
    go_ret
    exact ⟨by rw [HR.out]; try rfl, Below.refl _ _⟩
  · cases h2 : inB s 0 1000000
    · have HR := Lib.hid (HOF.out (by rw [h1, h2]; rfl))
      have H1 := Lib.hid h1
      have H2 := Lib.hid h2
      clear h1 h2
      go_enter Tryd.func38, Tryd.ntmps38
      go_wp2_with fail
      refine (impl_InRange _ _ _ _).mono ?_
      rw [H1.out]
      rintro e w1 ⟨rfl, rfl⟩
      go_wp2_with fail
      refine (impl_isSecR _ _).mono ?_
      rw [H2.out]
      rintro e w1 ⟨rfl, rfl⟩
      go_wp2
      go_ret
      exact ⟨by rw [HR.out]; try rfl, Below.refl _ _⟩
    · have hb1 := inB_t h1
      have hb2 := inB_t h2
      have HR := Lib.hid (HON.out h1 h2)
      have HC := Lib.hid (HCH.out hb1 hb2)
      have H1 := Lib.hid h1
      have H2 := Lib.hid h2
      clear h1 h2
      by_cases hlt : s < t
      · have HR2 := Lib.hid (HR.out.trans (if_pos hlt))
        rw [if_pos hlt] at HC
        go_enter Tryd.func38, Tryd.ntmps38
        go_wp2_with fail
        refine (impl_InRange _ _ _ _).mono ?_
        rw [H1.out]
        rintro e w1 ⟨rfl, rfl⟩
        go_wp2_with fail
        refine (impl_isSecR _ _).mono ?_
        rw [H2.out]
        rintro e w1 ⟨rfl, rfl⟩
        go_wp2_with fail
        refine HCA.out.mono ?_
        rintro e w4 ⟨rfl, rfl⟩
        go_wp2_with fail
        refine HC.out.mono ?_
        rintro e w5 ⟨rfl, hb5⟩
        have HB5 := Lib.hid (HBA.out.trans (hb5.mono HBA.out.size))
        clear hb5
        go_wp2_with fail
        refine (HA.out _ HB5.out).mono ?_
        rintro e w2 ⟨rfl, hb⟩
        go_wp2
        go_ret
        exact ⟨by rw [HR2.out]; try rfl, HB5.out.trans (hb.mono HB5.out.size)⟩
      · have HR2 := Lib.hid (HR.out.trans (if_neg hlt))
        rw [if_neg hlt] at HC
        go_enter Tryd.func38, Tryd.ntmps38
        go_wp2_with fail
        refine (impl_InRange _ _ _ _).mono ?_
        rw [H1.out]
        rintro e w1 ⟨rfl, rfl⟩
        go_wp2_with fail
        refine (impl_isSecR _ _).mono ?_
        rw [H2.out]
        rintro e w1 ⟨rfl, rfl⟩
        go_wp2_with fail
        refine HCA.out.mono ?_
        rintro e w4 ⟨rfl, rfl⟩
        go_wp2_with fail
        refine HC.out.mono ?_
        rintro e w5 ⟨rfl, hb5⟩
        have HB5 := Lib.hid (HBA.out.trans (hb5.mono HBA.out.size))
        clear hb5
        go_wp2_with fail
        refine (HBB.out _ _ HB5.out).mono ?_
        rintro e w2 ⟨rfl, hb⟩
        go_wp2
        go_ret
        exact ⟨by rw [HR2.out]; try rfl, HB5.out.trans (hb.mono HB5.out.size)⟩
end Go.Proofs.YtcbccbefkpklkaaDoor

/- SwitchSeconds, CanSwitch, SwitchAt, LightAfter as their exact laws meet them. -/
namespace Go.Proofs.YtcbccbefkpklkaaDoor
open Go.RowKit
set_option linter.unusedVariables false

theorem sp_SwitchSeconds (A0 : Option Addr) (n0 c0 : Nat) (zs0 : List Pth) (A1 : Option Addr) (n1 c1 : Nat) (zs1 : List Prt) (A2 : Option Addr) (n2 c2 : Nat) (zs2 : List Prt) (w : World) (h0 : SlP w A0 n0 c0 zs0) (hs0 : n0 ≤ 1048576) (h1 : SlQ w A1 n1 c1 zs1) (hs1 : SmallP zs1) (h2 : SlQ w A2 n2 c2 zs2) (hs2 : SmallP zs2) (r : List Int) (hr : swP zs0 zs1 zs2 = r) :
    Calls Tryd.prog 29 #[.slice A0 n0 c0, .slice A1 n1 c1, .slice A2 n2 c2] w fun e w' => ∃ v, e = .returned v ∧ Own .i64 3 w' w.heap.size v r ∧ Below w.heap.size w w' ∧ r.length ≤ 1048576 := by
  subst hr
  have hq1 := h1.prts.1
  have hz1 := hs1.1
  have hq2 := h2.prts.1
  have hz2 := hs2.1
  refine (spec_SwitchSeconds A0 n0 c0 _ zs0 A1 n1 c1 _ zs1 A2 n2 c2 _ zs2 w h0.pths (Nat.le_refl _) (by omega) h1.prts (Nat.le_refl _) (by omega) (hs1.at _ _ hq1.symm (Nat.le_refl _)) h2.prts (Nat.le_refl _) (by omega) (hs2.at _ _ hq2.symm (Nat.le_refl _))).mono fun e w' ⟨v, h1, h2, h3⟩ => ⟨v, h1, h2, h3, ?_⟩
  have := swP_len zs0 zs1 zs2
  omega
theorem im_SwitchSeconds (A0 : Option Addr) (n0 c0 : Nat) (zs0 : List Pth) (A1 : Option Addr) (n1 c1 : Nat) (zs1 : List Prt) (A2 : Option Addr) (n2 c2 : Nat) (zs2 : List Prt) (w : World) (h0 : SlP w A0 n0 c0 zs0) (hs0 : n0 ≤ 1048576) (h1 : SlQ w A1 n1 c1 zs1) (hs1 : SmallP zs1) (h2 : SlQ w A2 n2 c2 zs2) (hs2 : SmallP zs2) (hv0 : Brus w) (hv1 : Clrs w) (r : List Int) (hr : swP zs0 zs1 zs2 = r) :
    Calls Tryd.prog 30 #[.slice A0 n0 c0, .slice A1 n1 c1, .slice A2 n2 c2] w fun e w' => ∃ v, e = .returned v ∧ Own .i64 3 w' w.heap.size v r ∧ Below w.heap.size w w' ∧ r.length ≤ 1048576 := by
  subst hr
  have hq1 := h1.prts.1
  have hz1 := hs1.1
  have hq2 := h2.prts.1
  have hz2 := hs2.1
  refine (impl_SwitchSeconds ⟨h0.pths, Nat.le_refl _, h0.cap, by omega, h1.prts, Nat.le_refl _, by omega, hs1.at _ _ hq1.symm (Nat.le_refl _), hv0, hv1⟩ ⟨h0.pths, Nat.le_refl _, h0.cap, by omega, h2.prts, Nat.le_refl _, by omega, hs2.at _ _ hq2.symm (Nat.le_refl _), hv0, hv1⟩).mono fun e w' ⟨v, h1, h2, h3⟩ => ⟨v, h1, h2, h3, ?_⟩
  have := swP_len zs0 zs1 zs2
  omega
theorem sp_CanSwitch (A0 : Option Addr) (n0 c0 : Nat) (zs0 : List Pth) (A1 : Option Addr) (n1 c1 : Nat) (zs1 : List Prt) (A2 : Option Addr) (n2 c2 : Nat) (zs2 : List Prt) (w : World) (h0 : SlP w A0 n0 c0 zs0) (hs0 : n0 ≤ 1048576) (h1 : SlQ w A1 n1 c1 zs1) (hs1 : SmallP zs1) (h2 : SlQ w A2 n2 c2 zs2) (hs2 : SmallP zs2) (r : Bool) (hr : canSw zs0 zs1 zs2 = r) :
    Calls Tryd.prog 39 #[.slice A0 n0 c0, .slice A1 n1 c1, .slice A2 n2 c2] w fun e w' => e = .returned (.bool r) ∧ Below w.heap.size w w' := by
  subst hr
  have hq1 := h1.prts.1
  have hz1 := hs1.1
  have hq2 := h2.prts.1
  have hz2 := hs2.1
  exact spec_CanSwitch A0 n0 c0 _ zs0 A1 n1 c1 _ zs1 A2 n2 c2 _ zs2 w h0.pths (Nat.le_refl _) (by omega) h1.prts (Nat.le_refl _) (by omega) (hs1.at _ _ hq1.symm (Nat.le_refl _)) h2.prts (Nat.le_refl _) (by omega) (hs2.at _ _ hq2.symm (Nat.le_refl _))
theorem im_CanSwitch (A0 : Option Addr) (n0 c0 : Nat) (zs0 : List Pth) (A1 : Option Addr) (n1 c1 : Nat) (zs1 : List Prt) (A2 : Option Addr) (n2 c2 : Nat) (zs2 : List Prt) (w : World) (h0 : SlP w A0 n0 c0 zs0) (hs0 : n0 ≤ 1048576) (h1 : SlQ w A1 n1 c1 zs1) (hs1 : SmallP zs1) (h2 : SlQ w A2 n2 c2 zs2) (hs2 : SmallP zs2) (hv0 : Brus w) (hv1 : Clrs w) (r : Bool) (hr : canSw zs0 zs1 zs2 = r) :
    Calls Tryd.prog 40 #[.slice A0 n0 c0, .slice A1 n1 c1, .slice A2 n2 c2] w fun e w' => e = .returned (.bool r) ∧ Below w.heap.size w w' := by
  subst hr
  have hq1 := h1.prts.1
  have hz1 := hs1.1
  have hq2 := h2.prts.1
  have hz2 := hs2.1
  exact impl_CanSwitch ⟨h0.pths, Nat.le_refl _, h0.cap, by omega, h1.prts, Nat.le_refl _, by omega, hs1.at _ _ hq1.symm (Nat.le_refl _), hv0, hv1⟩ ⟨h0.pths, Nat.le_refl _, h0.cap, by omega, h2.prts, Nat.le_refl _, by omega, hs2.at _ _ hq2.symm (Nat.le_refl _), hv0, hv1⟩
theorem sp_SwitchAt (A0 : Option Addr) (n0 c0 : Nat) (zs0 : List Pth) (A1 : Option Addr) (n1 c1 : Nat) (zs1 : List Prt) (A2 : Option Addr) (n2 c2 : Nat) (zs2 : List Prt) (a3 : Int) (w : World) (h0 : SlP w A0 n0 c0 zs0) (hs0 : n0 ≤ 1048576) (h1 : SlQ w A1 n1 c1 zs1) (hs1 : SmallP zs1) (h2 : SlQ w A2 n2 c2 zs2) (hs2 : SmallP zs2) (wa3 : (Lit.int .i64 a3).wf = true) (r : Int) (hr : swAtP zs0 zs1 zs2 a3 = r) :
    Calls Tryd.prog 35 #[.slice A0 n0 c0, .slice A1 n1 c1, .slice A2 n2 c2, .int .i64 a3] w fun e w' => e = .returned (.int .i64 r) ∧ Below w.heap.size w w' := by
  subst hr
  have hq1 := h1.prts.1
  have hz1 := hs1.1
  have hq2 := h2.prts.1
  have hz2 := hs2.1
  exact spec_SwitchAt A0 n0 c0 _ zs0 A1 n1 c1 _ zs1 A2 n2 c2 _ zs2 a3 w h0.pths (Nat.le_refl _) (by omega) h1.prts (Nat.le_refl _) (by omega) (hs1.at _ _ hq1.symm (Nat.le_refl _)) h2.prts (Nat.le_refl _) (by omega) (hs2.at _ _ hq2.symm (Nat.le_refl _))
theorem im_SwitchAt (A0 : Option Addr) (n0 c0 : Nat) (zs0 : List Pth) (A1 : Option Addr) (n1 c1 : Nat) (zs1 : List Prt) (A2 : Option Addr) (n2 c2 : Nat) (zs2 : List Prt) (a3 : Int) (w : World) (h0 : SlP w A0 n0 c0 zs0) (hs0 : n0 ≤ 1048576) (h1 : SlQ w A1 n1 c1 zs1) (hs1 : SmallP zs1) (h2 : SlQ w A2 n2 c2 zs2) (hs2 : SmallP zs2) (wa3 : (Lit.int .i64 a3).wf = true) (hv0 : Brus w) (hv1 : Clrs w) (r : Int) (hr : swAtP zs0 zs1 zs2 a3 = r) :
    Calls Tryd.prog 36 #[.slice A0 n0 c0, .slice A1 n1 c1, .slice A2 n2 c2, .int .i64 a3] w fun e w' => e = .returned (.int .i64 r) ∧ Below w.heap.size w w' := by
  subst hr
  have hq1 := h1.prts.1
  have hz1 := hs1.1
  have hq2 := h2.prts.1
  have hz2 := hs2.1
  exact impl_SwitchAt ⟨h0.pths, Nat.le_refl _, h0.cap, by omega, h1.prts, Nat.le_refl _, by omega, hs1.at _ _ hq1.symm (Nat.le_refl _), hv0, hv1⟩ ⟨h0.pths, Nat.le_refl _, h0.cap, by omega, h2.prts, Nat.le_refl _, by omega, hs2.at _ _ hq2.symm (Nat.le_refl _), hv0, hv1⟩ a3
theorem sp_LightAfter (A0 : Option Addr) (n0 c0 : Nat) (zs0 : List Pth) (A1 : Option Addr) (n1 c1 : Nat) (zs1 : List Prt) (A2 : Option Addr) (n2 c2 : Nat) (zs2 : List Prt) (a3 : Int) (a4 : Int) (a5 : Int) (w : World) (h0 : SlP w A0 n0 c0 zs0) (hs0 : n0 ≤ 1048576) (h1 : SlQ w A1 n1 c1 zs1) (hs1 : SmallP zs1) (h2 : SlQ w A2 n2 c2 zs2) (hs2 : SmallP zs2) (wa3 : (Lit.int .i64 a3).wf = true) (wa4 : (Lit.int .i64 a4).wf = true) (wa5 : (Lit.int .i64 a5).wf = true) (r : Int) (hr : afterP zs0 zs1 zs2 a3 a4 a5 = r) :
    Calls Tryd.prog 37 #[.slice A0 n0 c0, .slice A1 n1 c1, .slice A2 n2 c2, .int .i64 a3, .int .i64 a4, .int .i64 a5] w fun e w' => e = .returned (.int .i64 r) ∧ Below w.heap.size w w' := by
  subst hr
  have hq1 := h1.prts.1
  have hz1 := hs1.1
  have hq2 := h2.prts.1
  have hz2 := hs2.1
  exact spec_LightAfter A0 n0 c0 _ zs0 A1 n1 c1 _ zs1 A2 n2 c2 _ zs2 a3 a4 a5 w h0.pths (Nat.le_refl _) (by omega) h1.prts (Nat.le_refl _) (by omega) (hs1.at _ _ hq1.symm (Nat.le_refl _)) h2.prts (Nat.le_refl _) (by omega) (hs2.at _ _ hq2.symm (Nat.le_refl _))
theorem im_LightAfter (A0 : Option Addr) (n0 c0 : Nat) (zs0 : List Pth) (A1 : Option Addr) (n1 c1 : Nat) (zs1 : List Prt) (A2 : Option Addr) (n2 c2 : Nat) (zs2 : List Prt) (a3 : Int) (a4 : Int) (a5 : Int) (w : World) (h0 : SlP w A0 n0 c0 zs0) (hs0 : n0 ≤ 1048576) (h1 : SlQ w A1 n1 c1 zs1) (hs1 : SmallP zs1) (h2 : SlQ w A2 n2 c2 zs2) (hs2 : SmallP zs2) (wa3 : (Lit.int .i64 a3).wf = true) (wa4 : (Lit.int .i64 a4).wf = true) (wa5 : (Lit.int .i64 a5).wf = true) (hv0 : Brus w) (hv1 : Clrs w) (r : Int) (hr : afterP zs0 zs1 zs2 a3 a4 a5 = r) :
    Calls Tryd.prog 38 #[.slice A0 n0 c0, .slice A1 n1 c1, .slice A2 n2 c2, .int .i64 a3, .int .i64 a4, .int .i64 a5] w fun e w' => e = .returned (.int .i64 r) ∧ Below w.heap.size w w' := by
  subst hr
  have hq1 := h1.prts.1
  have hz1 := hs1.1
  have hq2 := h2.prts.1
  have hz2 := hs2.1
  exact impl_LightAfter ⟨h0.pths, Nat.le_refl _, h0.cap, by omega, h1.prts, Nat.le_refl _, by omega, hs1.at _ _ hq1.symm (Nat.le_refl _), hv0, hv1⟩ ⟨h0.pths, Nat.le_refl _, h0.cap, by omega, h2.prts, Nat.le_refl _, by omega, hs2.at _ _ hq2.symm (Nat.le_refl _), hv0, hv1⟩ a3 a4 a5
end Go.Proofs.YtcbccbefkpklkaaDoor
