/- The walk of FnPaths. -/
import Derived.Test.YteilcbmpmeggcaaDoorDraw4
import Derived.Test.YteilcbmpmeggcaaDoorTextI
import Derived.Test.YteilcbmpmeggcaaDoorTurnI
import Derived.Test.YteilcbmpmeggcaaDoorInterI
import Derived.Test.YteilcbmpmeggcaaDoorGrow
import Derived.Test.YteilcbmpmeggcaaDoorConf
namespace Go.Proofs.YteilcbmpmeggcaaDoor
open Go.RowKit
set_option linter.unusedVariables false

theorem inter_iff' (a b c d : Int) : inter a b c d = true ↔ (a ≠ b ∧ a ≠ c ∧ a ≠ d ∧ b ≠ c ∧ b ≠ d ∧ c ≠ d) ∧ (0 ≤ a ∧ a ≤ 7) ∧ (0 ≤ b ∧ b ≤ 7) ∧ (0 ≤ c ∧ c ≤ 7) ∧ (0 ≤ d ∧ d ≤ 7) ∧ ¬ ((c - a) % 8 < (b - a) % 8 ↔ (d - a) % 8 < (b - a) % 8) := by
  unfold inter inB betw
  simp only [Bool.and_eq_true, decide_eq_true_eq, bne_iff_ne, ne_eq, decide_eq_decide, and_assoc]
theorem inter_cdab (a b c d : Int) : inter c d a b = inter a b c d := by
  rw [Bool.eq_iff_iff, inter_iff', inter_iff']
  constructor
  all_goals
    rintro ⟨⟨h1, h2, h3, h4, h5, h6⟩, ⟨a1, a2⟩, ⟨b1, b2⟩, ⟨c1, c2⟩, ⟨d1, d2⟩, h⟩
    refine ⟨⟨by omega, by omega, by omega, by omega, by omega, by omega⟩, ⟨by omega, by omega⟩, ⟨by omega, by omega⟩, ⟨by omega, by omega⟩, ⟨by omega, by omega⟩, by omega⟩
theorem inter_bacd (a b c d : Int) : inter b a c d = inter a b c d := by
  rw [Bool.eq_iff_iff, inter_iff', inter_iff']
  constructor
  all_goals
    rintro ⟨⟨h1, h2, h3, h4, h5, h6⟩, ⟨a1, a2⟩, ⟨b1, b2⟩, ⟨c1, c2⟩, ⟨d1, d2⟩, h⟩
    refine ⟨⟨by omega, by omega, by omega, by omega, by omega, by omega⟩, ⟨by omega, by omega⟩, ⟨by omega, by omega⟩, ⟨by omega, by omega⟩, ⟨by omega, by omega⟩, by omega⟩
theorem inter_abdc (a b c d : Int) : inter a b d c = inter a b c d := by
  rw [Bool.eq_iff_iff, inter_iff', inter_iff']
  constructor
  all_goals
    rintro ⟨⟨h1, h2, h3, h4, h5, h6⟩, ⟨a1, a2⟩, ⟨b1, b2⟩, ⟨c1, c2⟩, ⟨d1, d2⟩, h⟩
    refine ⟨⟨by omega, by omega, by omega, by omega, by omega, by omega⟩, ⟨by omega, by omega⟩, ⟨by omega, by omega⟩, ⟨by omega, by omega⟩, ⟨by omega, by omega⟩, by omega⟩
theorem in_out (a : Int) : inPl a = -1 ∧ outPl a = -1 ∨ 0 ≤ inPl a ∧ inPl a ≤ 6 ∧ outPl a = inPl a + 1 := by
  unfold inPl outPl
  cases h : inB a 0 3
  · exact .inl ⟨rfl, rfl⟩
  · right
    unfold inB at h
    simp only [Bool.and_eq_true, decide_eq_true_eq] at h
    rw [if_pos rfl, if_pos rfl]
    omega
theorem path_text_some {p : Pth} (h : isP p = true) : pathT p ≠ ⟨#[]⟩ := by
  rw [pathT_yes h]
  intro e
  have := congrArg ByteArray.size e
  rw [bs_size, show (⟨#[]⟩ : ByteArray).size = 0 from rfl, List.length_append, List.length_append, List.length_append, List.length_singleton] at this
  omega
theorem turn_walk {p : Pth} (h : isP p = true) (hk : p.kind = 2) : turnS p = ⟨#[119, 97, 108, 107]⟩ := by
  have hf := (isP_facts p h).2.2.2.2.2 hk
  have e : turnS p = turnN (modI (p.to - p.frm) 4) := by unfold turnS; rw [h]; rfl
  rw [e, hf, Int.sub_self]
  rfl
theorem turn_ride {p : Pth} (h : isP p = true) (hk : ¬ p.kind = 2) : turnS p ≠ ⟨#[]⟩ ∧ turnS p ≠ ⟨#[119, 97, 108, 107]⟩ := by
  obtain ⟨_, _, ⟨f1, f2⟩, ⟨t1, t2⟩, hi⟩ := isP_facts p h
  have hf : p.frm ≠ p.to := fun e => hk (hi.1 e)
  have e : turnS p = turnN (modI (p.to - p.frm) 4) := by unfold turnS; rw [h]; rfl
  have em : modI (p.to - p.frm) 4 = (p.to - p.frm) % 4 := rfl
  rw [e, em]
  have h0 : (p.to - p.frm) % 4 ≠ 0 := by omega
  unfold turnN
  rw [if_neg h0]
  split
  · exact ⟨by decide, by decide⟩
  · split
    · exact ⟨by decide, by decide⟩
    · exact ⟨by decide, by decide⟩
theorem turn_none {p : Pth} (h : isP p = false) : turnS p = ⟨#[]⟩ := by unfold turnS; rw [h]; rfl
theorem str_some {s : ByteArray} (h : s ≠ ⟨#[]⟩) : s.toList.isEmpty = false := by
  rw [Go.ByteArray.toList_eq, Bool.eq_false_iff]
  intro hc
  apply h
  have e : s.data.toList = [] := List.isEmpty_iff.1 hc
  exact ByteArray.ext (Array.toList_inj.1 e)
theorem str_not {s : ByteArray} {l : List UInt8} (h : s ≠ ⟨l.toArray⟩) : (s.toList == l) = false := by
  rw [Go.ByteArray.toList_eq, Bool.eq_false_iff]
  intro hc
  apply h
  have e : s.data.toList = l := by simpa using hc
  exact ByteArray.ext (Array.toList_inj.1 (by rw [e]))
set_option maxHeartbeats 4000000 in
set_option maxRecDepth 100000 in
theorem walk_FnPaths (W : World) (A : Option Addr) (n c : Nat) (zs : List Int) (ha : IntsAt .u8 W W.heap.size A n zs ∧ (∀ z ∈ zs, (Lit.int .u8 z).wf = true) ∧ n ≤ c ∧ c ≤ maxLen) (ht : Tabs W) (hu : Turns W) :
    Calls Tryd.prog 3 #[.slice A n c] W fun e w' => e = .returned (.bool true) ∧ Below W.heap.size W w' := by
  obtain ⟨ha1, ha2, ha3, ha4⟩ := ha
  unfold maxLen at ha4
  have hb : Bytes W W.heap.size A n zs := ⟨ha1, fun z hz => u8_of_wf (ha2 z hz)⟩
  have HB := Lib.hid hb
  have HT := Lib.hid ht
  have HU := Lib.hid hu
  clear ha1 ha2 hb ht hu
  by_cases hbig : 1048576 < n
  · go_enter Tryd.func3, Tryd.ntmps3
    go_wp2_with fail
    refine (laws_big _ _ _ _ (by omega)).mono ?_
    rintro e w' ⟨rfl, rfl⟩
    go_wp2
    go_ret
    exact ⟨rfl, Below.refl _ _⟩
  · go_enter Tryd.func3, Tryd.ntmps3
    go_wp2_with fail
    refine (laws_big _ _ _ _ (by omega)).mono ?_
    rintro e w' ⟨rfl, rfl⟩
    go_wp2_with fail
    refine (spec_DrawIsPath A n c _ zs _ HB.out (Nat.le_refl _) (by omega)).mono ?_
    rintro e w1 ⟨p, -, rfl, hb1⟩
    have HI : Hid (∀ x, Calls Tryd.prog 11 #[p.val] x fun e w' => e = .returned (.bool (isP p)) ∧ Below x.heap.size x w') := Lib.hid fun x => impl_IsPath p x
    have HX : Hid (∀ x, Tabs x → Calls Tryd.prog 12 #[p.val] x fun e w' => e = .returned (.string (pathT p)) ∧ Below x.heap.size x w') := Lib.hid fun x hx => impl_PathText p x hx
    have HN : Hid (∀ x, Turns x → Calls Tryd.prog 13 #[p.val] x fun e w' => e = .returned (.string (turnS p)) ∧ Below x.heap.size x w') := Lib.hid fun x hx => impl_TurnOf p x hx
    have hcase : (isP p = false ∧ pathT p = ⟨#[]⟩ ∧ turnS p = ⟨#[]⟩) ∨ (isP p = true ∧ p.kind = 2 ∧ pathT p ≠ ⟨#[]⟩ ∧ turnS p = ⟨#[119, 97, 108, 107]⟩) ∨ (isP p = true ∧ ¬ p.kind = 2 ∧ pathT p ≠ ⟨#[]⟩ ∧ turnS p ≠ ⟨#[]⟩ ∧ turnS p ≠ ⟨#[119, 97, 108, 107]⟩) := by
      cases hp : isP p
      · exact .inl ⟨rfl, pathT_no hp, turn_none hp⟩
      · by_cases hk : p.kind = 2
        · exact .inr (.inl ⟨rfl, hk, path_text_some hp, turn_walk hp hk⟩)
        · exact .inr (.inr ⟨rfl, hk, path_text_some hp, turn_ride hp hk⟩)
    generalize isP p = b at *
    generalize pathT p = s at *
    generalize turnS p = t at *
    obtain ⟨p0, p1, p2, p3⟩ := p
    simp only [Pth.val] at *
    have hlt : W.heap.size ≤ w1.heap.size := hb1.size
    have hX := heap_alloc_new w1 (.cells #[.int .i64 p0, .int .i64 p1, .int .i64 p2, .int .i64 p3] 25)
    have hba : Below W.heap.size W (w1.alloc (.cells #[.int .i64 p0, .int .i64 p1, .int .i64 p2, .int .i64 p3] 25)) := hb1.alloc hb1.size _
    have hs1 : w1.heap.size < (w1.alloc (.cells #[.int .i64 p0, .int .i64 p1, .int .i64 p2, .int .i64 p3] 25)).heap.size := by simp
    obtain ⟨w2, hw2⟩ : ∃ w2, w2 = w1.alloc (.cells #[.int .i64 p0, .int .i64 p1, .int .i64 p2, .int .i64 p3] 25) := ⟨_, rfl⟩
    rw [← hw2] at hX hba hs1
    have c0 := fun x : GW w2 => (x.ok.cell (p := ⟨w1.heap.size, 0, none⟩) hs1).trans (cell_of_row w2 _ 0 _ _ _ hX)
    have c1 := fun x : GW w2 => (x.ok.cell (p := ⟨w1.heap.size, 1, none⟩) hs1).trans (cell_of_row w2 _ 1 _ _ _ hX)
    have c2 := fun x : GW w2 => (x.ok.cell (p := ⟨w1.heap.size, 2, none⟩) hs1).trans (cell_of_row w2 _ 2 _ _ _ hX)
    have c3 := fun x : GW w2 => (x.ok.cell (p := ⟨w1.heap.size, 3, none⟩) hs1).trans (cell_of_row w2 _ 3 _ _ _ hX)
    simp only [List.getElem?_toArray, List.getElem?_cons_succ, List.getElem?_cons_zero] at c0 c1 c2 c3
    have HBA := Lib.hid hba
    have HG := Lib.hid (fun x : GW w2 => hba.trans (x.ok.mono hba.size))
    have hcI := Lib.hid (fun x : GW w2 => HI.out x.val)
    have hcX := Lib.hid (fun x : GW w2 => HX.out x.val (HT.out.below (HG.out x) (Nat.le_refl _)))
    have hcN := Lib.hid (fun x : GW w2 => HN.out x.val (HU.out.below (HG.out x) (Nat.le_refl _)))
    have HBB := Lib.hid (fun x : GW w2 => HB.out.below (HG.out x))
    clear hX hba hs1 hb1 HI HX HN HT HU HB
    have hse := fun h => str_some (s := s) h
    have hte := fun h => str_some (s := t) h
    have htw := fun h => str_not (s := t) (l := [119, 97, 108, 107]) h
    rcases hcase with ⟨rfl, rfl, rfl⟩ | ⟨rfl, rfl, hs, rfl⟩ | ⟨rfl, hk, hs, ht1, ht2⟩
    rotate_right
    all_goals
      first
        | (have h1 := hse hs; have h2 := hte ht1; have h3 := htw ht2; clear hs ht1 ht2)
        | (have h1 := hse hs; clear hs)
        | skip
      clear hse hte htw
      go_wp2
      rw [← hw2]
      refine wp_region_grow (by kernel_rfl) (by kernel_rfl) ?_
      repeat (go_big_quiet_step (first
        | (go_at_call 11; with_reducible exact calls_gw _ (hcI.out _))
        | (go_at_call 12; with_reducible exact calls_gw _ (hcX.out _))
        | (go_at_call 13; with_reducible exact calls_gw _ (hcN.out _))))
      refine wpQuiet_nil ?_
      intro x5
      have HB5 := Lib.hid (HG.out x5)
      have HY5 := Lib.hid (HBB.out x5)
      clear c0 c1 c2 c3 hw2 HBA HG hcI hcX hcN HBB
      generalize x5.val = w5 at *
      clear x5
      go_wp2_with fail
      refine (spec_DrawInPlace A n c _ zs _ HY5.out HB5.out.size (by omega)).mono ?_
      rintro e w6 ⟨a, -, rfl, hb6⟩
      have HB6 := Lib.hid (HB5.out.trans (hb6.mono HB5.out.size))
      have HY6 := Lib.hid (HY5.out.below (hb6.mono HB5.out.size))
      have HIN : Hid (∀ x, Calls Tryd.prog 15 #[.int .i64 a] x fun e w' => e = .returned (.int .i64 (inPl a)) ∧ x = w') := Lib.hid fun x => impl_InPlace a x
      have HOU : Hid (∀ x, Calls Tryd.prog 16 #[.int .i64 a] x fun e w' => e = .returned (.int .i64 (outPl a)) ∧ x = w') := Lib.hid fun x => impl_OutPlace a x
      have hio := in_out a
      clear hb6 HB5 HY5
      generalize inPl a = i at *
      generalize outPl a = o at *
      go_wp2_with fail
      refine (HIN.out _).mono ?_
      rintro e w' ⟨rfl, rfl⟩
      go_wp2_with fail
      refine (HOU.out _).mono ?_
      rintro e w' ⟨rfl, rfl⟩
      rcases hio with ⟨rfl, rfl⟩ | ⟨i1, i2, rfl⟩
      · go_wp2_with fail
        refine (HIN.out _).mono ?_
        rintro e w' ⟨rfl, rfl⟩
        go_wp2_with fail
        refine (spec_DrawInterleave A n c _ zs _ HY6.out HB6.out.size (by omega)).mono ?_
        rintro e w7 ⟨x, y, u, v, rfl, hb7⟩
        have HB7 := Lib.hid (HB6.out.trans (hb7.mono HB6.out.size))
        have HI1 : Hid (∀ z, Calls Tryd.prog 18 #[.int .i64 x, .int .i64 y, .int .i64 u, .int .i64 v] z fun e w' => e = .returned (.bool (inter x y u v)) ∧ Below z.heap.size z w') := Lib.hid fun z => impl_Interleave x y u v z
        have HI2 : Hid (∀ z, Calls Tryd.prog 18 #[.int .i64 y, .int .i64 x, .int .i64 u, .int .i64 v] z fun e w' => e = .returned (.bool (inter x y u v)) ∧ Below z.heap.size z w') := Lib.hid fun z => inter_bacd x y u v ▸ impl_Interleave y x u v z
        have HI3 : Hid (∀ z, Calls Tryd.prog 18 #[.int .i64 x, .int .i64 y, .int .i64 v, .int .i64 u] z fun e w' => e = .returned (.bool (inter x y u v)) ∧ Below z.heap.size z w') := Lib.hid fun z => inter_abdc x y u v ▸ impl_Interleave x y v u z
        have HI4 : Hid (∀ z, Calls Tryd.prog 18 #[.int .i64 u, .int .i64 v, .int .i64 x, .int .i64 y] z fun e w' => e = .returned (.bool (inter x y u v)) ∧ Below z.heap.size z w') := Lib.hid fun z => inter_cdab x y u v ▸ impl_Interleave u v x y z
        clear hb7 HB6 HY6
        generalize inter x y u v = r at *
        go_wp2_with fail
        refine (HI1.out _).mono ?_
        rintro e w8 ⟨rfl, hb8⟩
        have HB8 := Lib.hid (HB7.out.trans (hb8.mono HB7.out.size))
        clear hb8 HB7
        go_wp2_with fail
        refine (HI2.out _).mono ?_
        rintro e w9 ⟨rfl, hb9⟩
        have HB9 := Lib.hid (HB8.out.trans (hb9.mono HB8.out.size))
        clear hb9 HB8
        go_wp2_with fail
        refine (HI3.out _).mono ?_
        rintro e w10 ⟨rfl, hb10⟩
        have HB10 := Lib.hid (HB9.out.trans (hb10.mono HB9.out.size))
        clear hb10 HB9
        go_wp2_with fail
        refine (HI4.out _).mono ?_
        rintro e w11 ⟨rfl, hb11⟩
        have HB11 := Lib.hid (HB10.out.trans (hb11.mono HB10.out.size))
        clear hb11 HB10
        go_wp2
        go_ret
        exact ⟨by first | rfl | (cases r <;> rfl) | simp, HB11.out⟩
      · have n1 : (i == -1) = false := by simp; omega
        have n2 : (i + 1 == -1) = false := by simp; omega
        go_wp2_with fail
        refine (HIN.out _).mono ?_
        rintro e w' ⟨rfl, rfl⟩
        go_wp2_with fail
        refine (HOU.out _).mono ?_
        rintro e w' ⟨rfl, rfl⟩
        go_wp2_with fail
        refine (HIN.out _).mono ?_
        rintro e w' ⟨rfl, rfl⟩
        go_wp2_with fail
        refine (spec_DrawInterleave A n c _ zs _ HY6.out HB6.out.size (by omega)).mono ?_
        rintro e w7 ⟨x, y, u, v, rfl, hb7⟩
        have HB7 := Lib.hid (HB6.out.trans (hb7.mono HB6.out.size))
        have HI1 : Hid (∀ z, Calls Tryd.prog 18 #[.int .i64 x, .int .i64 y, .int .i64 u, .int .i64 v] z fun e w' => e = .returned (.bool (inter x y u v)) ∧ Below z.heap.size z w') := Lib.hid fun z => impl_Interleave x y u v z
        have HI2 : Hid (∀ z, Calls Tryd.prog 18 #[.int .i64 y, .int .i64 x, .int .i64 u, .int .i64 v] z fun e w' => e = .returned (.bool (inter x y u v)) ∧ Below z.heap.size z w') := Lib.hid fun z => inter_bacd x y u v ▸ impl_Interleave y x u v z
        have HI3 : Hid (∀ z, Calls Tryd.prog 18 #[.int .i64 x, .int .i64 y, .int .i64 v, .int .i64 u] z fun e w' => e = .returned (.bool (inter x y u v)) ∧ Below z.heap.size z w') := Lib.hid fun z => inter_abdc x y u v ▸ impl_Interleave x y v u z
        have HI4 : Hid (∀ z, Calls Tryd.prog 18 #[.int .i64 u, .int .i64 v, .int .i64 x, .int .i64 y] z fun e w' => e = .returned (.bool (inter x y u v)) ∧ Below z.heap.size z w') := Lib.hid fun z => inter_cdab x y u v ▸ impl_Interleave u v x y z
        clear hb7 HB6 HY6
        generalize inter x y u v = r at *
        go_wp2_with fail
        refine (HI1.out _).mono ?_
        rintro e w8 ⟨rfl, hb8⟩
        have HB8 := Lib.hid (HB7.out.trans (hb8.mono HB7.out.size))
        clear hb8 HB7
        go_wp2_with fail
        refine (HI2.out _).mono ?_
        rintro e w9 ⟨rfl, hb9⟩
        have HB9 := Lib.hid (HB8.out.trans (hb9.mono HB8.out.size))
        clear hb9 HB8
        go_wp2_with fail
        refine (HI3.out _).mono ?_
        rintro e w10 ⟨rfl, hb10⟩
        have HB10 := Lib.hid (HB9.out.trans (hb10.mono HB9.out.size))
        clear hb10 HB9
        go_wp2_with fail
        refine (HI4.out _).mono ?_
        rintro e w11 ⟨rfl, hb11⟩
        have HB11 := Lib.hid (HB10.out.trans (hb11.mono HB10.out.size))
        clear hb11 HB10
        go_wp2
        go_ret
        exact ⟨by first | rfl | (cases r <;> rfl) | simp, HB11.out⟩
end Go.Proofs.YteilcbmpmeggcaaDoor
