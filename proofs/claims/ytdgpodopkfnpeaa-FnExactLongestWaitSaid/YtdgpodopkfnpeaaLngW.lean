/- Chapter 37: LongestWait: program and model. -/
import Derived.Test.YtdgpodopkfnpeaaInts
import Derived.Test.YtdgpodopkfnpeaaWnt
import Derived.Deep.RegionWith
namespace Go.Proofs.Ytdgpodopkfnpeaa
open Go.RowKit
set_option linter.unusedVariables false

def wntA (zs : List Wnt) (k : Nat) : Wnt := zs.getD k ⟨0, 0⟩
theorem wntA_some {zs : List Wnt} {k : Nat} {x : Wnt} (h : zs[k]? = some x) : wntA zs k = x := by unfold wntA; rw [List.getD_eq_getElem?_getD, h]; rfl
def gtW (m x : Wnt) : Wnt := if x.wait > m.wait then x else m
/-- the first one with the greatest Wait of the first one and of the first k. -/
def gtK (zs : List Wnt) : Nat → Wnt
  | 0 => wntA zs 0
  | k + 1 => gtW (gtK zs k) (wntA zs k)
def longW (zs : List Wnt) : Int := if zs.length = 0 then 0 else (gtK zs zs.length).wait
theorem gtK_one (zs : List Wnt) : gtK zs 1 = wntA zs 0 := by
  show gtW (wntA zs 0) (wntA zs 0) = _
  unfold gtW
  split <;> rfl
theorem gtK_yes {zs : List Wnt} {k : Nat} {x : Wnt} (hx : zs[k]? = some x) (h : x.wait > (gtK zs k).wait) : gtK zs (k + 1) = x := by show gtW _ _ = _; unfold gtW; rw [wntA_some hx, if_pos h]
theorem gtK_no {zs : List Wnt} {k : Nat} {x : Wnt} (hx : zs[k]? = some x) (h : ¬ x.wait > (gtK zs k).wait) : gtK zs (k + 1) = gtK zs k := by show gtW _ _ = _; unfold gtW; rw [wntA_some hx, if_neg h]
/-- what the model carries. -/
def bestW (zs : List Wnt) (k : Nat) : Int := if k = 0 then 0 else (gtK zs k).wait
theorem bestW_pos {zs : List Wnt} {k : Nat} (h : k ≠ 0) : bestW zs k = (gtK zs k).wait := by unfold bestW; rw [if_neg h]
theorem ahead_want (a b : Int) (w : World) : (nilAhead 277 124 (.agg #[.int .i64 a, .int .i64 b]) "loop.example/g03006/impl.size").run Try.prog w = .ok (some false) w := by kernel_rfl
theorem method_want (a b : Int) (w : World) : (method 277 124 (.agg #[.int .i64 a, .int .i64 b]) "loop.example/g03006/impl.size").run Try.prog w = .ok (134, .agg #[.int .i64 a, .int .i64 b]) w := by kernel_rfl
theorem impl_size (a b : Int) (w : World) : Calls Try.prog 134 #[.agg #[.int .i64 a, .int .i64 b]] w fun e w' => e = .returned (.int .i64 b) ∧ Below w.heap.size w w' := by
  have HB := Lib.hid ((Below.refl w.heap.size w).alloc (Nat.le_refl _) (.cells #[.int .i64 a, .int .i64 b] 124))
  go_enter Try.func134, Try.ntmps134
  go_wp2
  go_ret
  exact ⟨rfl, HB.out⟩
/-- a want as a thing with a size. -/
def szdV (p : Wnt) : Value := .iface 124 (.agg #[.int .i64 p.path, .int .i64 p.wait])
theorem impl_LongestWait1 (g : Nat) (A : Option Addr) (n c B k : Nat) (zs : List Wnt) (p : Wnt) (w : World) (hc : w.cell? ⟨g, 0, none⟩ = some (.slice A n c)) (h : WntsAt w B A n zs) (hk : k < n) (hp : zs[k]? = some p) (hn : n ≤ 4294967296) :
    Calls Try.prog 93 #[.int .i64 k, .pointer (some ⟨g, 0, none⟩)] w fun e w' => e = .returned (szdV p) ∧ w = w' := by
  obtain ⟨ad, p', rfl, hab, hp', hq⟩ := h.at hk
  rw [hp] at hp'
  injection hp' with hp'
  subst hp'
  obtain ⟨c0, c1⟩ := hq
  have i1 : (0 : Int) ≤ (k : Int) := by omega
  have i2 : (k : Int) < (n : Int) := by omega
  unfold szdV
  clear hp h
  go_enter Try.func93, Try.ntmps93
  go_wp2
  go_ret
  exact ⟨rfl, rfl⟩
/-- the closure that picks the greater one. -/
theorem impl_greatest1 (f g : Nat) (A : Option Addr) (n c B k : Nat) (zs : List Wnt) (m p : Wnt) (w : World) (hf : w.cell? ⟨f, 0, none⟩ = some (.func (.func 93) #[] #[.pointer (some ⟨g, 0, none⟩)])) (hc : w.cell? ⟨g, 0, none⟩ = some (.slice A n c)) (h : WntsAt w B A n zs) (hk : k < n) (hp : zs[k]? = some p) (hn : n ≤ 4294967296) :
    Calls Try.prog 114 #[szdV m, .int .i64 k, .pointer (some ⟨f, 0, none⟩)] w fun e w' => e = .returned (szdV (gtW m p)) ∧ Below w.heap.size w w' := by
  have hcc := impl_LongestWait1 g A n c B k zs p w hc h hk hp hn
  obtain ⟨a, b⟩ := p
  obtain ⟨a2, b2⟩ := m
  have h1 := ahead_want a b
  have h2 := ahead_want a2 b2
  have m1 := method_want a b
  have m2 := method_want a2 b2
  have hs1 := fun w => impl_size a b w
  have hs2 := fun w => impl_size a2 b2 w
  by_cases hgt : b > b2
  · have HV : Hid (gtW ⟨a2, b2⟩ ⟨a, b⟩ = ⟨a, b⟩) := Lib.hid (by unfold gtW; rw [if_pos hgt])
    simp only [szdV] at *
    go_enter Try.func114, Try.ntmps114
    go_wp2_with fail
    refine hcc.mono ?_
    rintro e w1 ⟨rfl, rfl⟩
    clear hcc
    go_wp2_with fail
    refine (hs1 _).mono ?_
    rintro e w1 ⟨rfl, hb1⟩
    go_wp2_with fail
    refine (hs2 _).mono ?_
    rintro e w2 ⟨rfl, hb2⟩
    have HB := Lib.hid (hb1.trans (hb2.mono hb1.size))
    clear hb1 hb2
    go_wp2
    go_ret
    exact ⟨by rw [HV.out]; rfl, HB.out⟩
  · have HV : Hid (gtW ⟨a2, b2⟩ ⟨a, b⟩ = ⟨a2, b2⟩) := Lib.hid (by unfold gtW; rw [if_neg hgt])
    simp only [szdV] at *
    go_enter Try.func114, Try.ntmps114
    go_wp2_with fail
    refine hcc.mono ?_
    rintro e w1 ⟨rfl, rfl⟩
    clear hcc
    go_wp2_with fail
    refine (hs1 _).mono ?_
    rintro e w1 ⟨rfl, hb1⟩
    go_wp2_with fail
    refine (hs2 _).mono ?_
    rintro e w2 ⟨rfl, hb2⟩
    have HB := Lib.hid (hb1.trans (hb2.mono hb1.size))
    clear hb1 hb2
    go_wp2
    go_ret
    exact ⟨by rw [HV.out]; rfl, HB.out⟩
theorem impl_carryS (f g : Nat) (A : Option Addr) (n c B : Nat) (zs : List Wnt) (w : World) (hf : w.cell? ⟨f, 0, none⟩ = some (.func (.func 93) #[] #[.pointer (some ⟨g, 0, none⟩)])) (hc : w.cell? ⟨g, 0, none⟩ = some (.slice A n c)) (hfl : f < w.heap.size) (hgl : g < w.heap.size) (h : WntsAt w B A n zs) (hB : B ≤ w.heap.size) (hn : n ≤ 4294967296) :
    Calls Try.prog 113 #[.int .i64 n, szdV (gtK zs 0), .func (.func 114) #[] #[.pointer (some ⟨f, 0, none⟩)]] w fun e w' => e = .returned (szdV (gtK zs n)) ∧ Below w.heap.size w w' := by
  have hl := h.1
  have HF := Lib.hid hf
  have HC := Lib.hid hc
  have HH := Lib.hid h
  clear hf hc h
  go_enter Try.func113, Try.ntmps113
  go_wp2
  go_loopw [1, 9] (fun t i wr => ∃ k : Nat, k ≤ n ∧ i = .int .i64 k ∧ t = szdV (gtK zs k) ∧ Below w.heap.size w wr) (fun _ i _ => n - (intOf i).toNat)
  case atStart => exact ⟨0, Nat.zero_le _, rfl, rfl, Below.refl _ _⟩
  case round =>
    obtain ⟨k, hk, rfl, rfl, hbl⟩ := hrel
    by_cases hlt : k < n
    · obtain ⟨p, hp⟩ : ∃ p, zs[k]? = some p := ⟨zs[k]'(by omega), List.getElem?_eq_getElem (by omega)⟩
      have hcc := impl_greatest1 f g A n c B k zs (gtK zs k) p wr ((hbl.cell (p := ⟨f, 0, none⟩) hfl).trans HF.out) ((hbl.cell (p := ⟨g, 0, none⟩) hgl).trans HC.out) (HH.out.below (hbl.mono hB)) hlt hp hn
      have HS : Hid (gtK zs (k + 1) = gtW (gtK zs k) p) := Lib.hid (by show gtW _ _ = _; rw [wntA_some hp])
      rw [← HS.out] at hcc
      have HB := Lib.hid hbl
      clear hbl hp
      go_wp2_with fail
      refine hcc.mono ?_
      rintro e w2 ⟨rfl, hb2⟩
      have HB2 := Lib.hid (HB.out.trans (hb2.mono HB.out.size))
      clear hb2 hcc
      go_wp2
      go_roundw
      case rel => exact ⟨k + 1, by omega, by go_num, rfl, HB2.out⟩
      case measure => simp [intOf]; omega
    · obtain rfl : k = n := by omega
      go_wp2
      go_ret
      exact ⟨rfl, hbl⟩
theorem impl_greatestW (g : Nat) (A : Option Addr) (n c B : Nat) (zs : List Wnt) (w : World) (hc : w.cell? ⟨g, 0, none⟩ = some (.slice A n c)) (hgl : g < w.heap.size) (h : WntsAt w B A n zs) (hB : B ≤ w.heap.size) (hn : n ≤ 4294967296) (h0 : 0 < n) :
    Calls Try.prog 92 #[.int .i64 n, .func (.func 93) #[] #[.pointer (some ⟨g, 0, none⟩)]] w fun e w' => e = .returned (szdV (gtK zs n)) ∧ Below w.heap.size w w' := by
  have hl := h.1
  obtain ⟨p, hp⟩ : ∃ p, zs[0]? = some p := ⟨zs[0]'(by omega), List.getElem?_eq_getElem (by omega)⟩
  obtain ⟨wA, hwA⟩ : ∃ wA, wA = w.alloc (.cells #[.func (.func 93) #[] #[.pointer (some ⟨g, 0, none⟩)]] 130) := ⟨_, rfl⟩
  obtain ⟨hk, hsz, hBl⟩ := one_block hwA
  have hf : wA.cell? ⟨w.heap.size, 0, none⟩ = some (.func (.func 93) #[] #[.pointer (some ⟨g, 0, none⟩)]) := by rw [cell_of_row wA _ 0 _ _ _ hk]; rfl
  have hcA := (hBl.cell (p := ⟨g, 0, none⟩) hgl).trans hc
  have hA := h.below (hBl.mono hB)
  have hc1 := impl_LongestWait1 g A n c B 0 zs p wA hcA hA h0 hp hn
  have hc2 := impl_carryS w.heap.size g A n c B zs wA hf hcA (by omega) (by omega) hA (by omega) hn
  have e0 : gtK zs 0 = p := wntA_some hp
  rw [e0] at hc2
  have HB := Lib.hid hBl
  clear hk hBl hcA hA hc h hp e0
  go_enter Try.func92, Try.ntmps92
  go_wp2_with fail
  rw [← hwA]
  refine hc1.mono ?_
  rintro e w1 ⟨rfl, rfl⟩
  clear hwA hc1
  go_wp2_with fail
  refine hc2.mono ?_
  rintro e w2 ⟨rfl, hb2⟩
  have HB2 := Lib.hid (HB.out.trans (hb2.mono HB.out.size))
  clear hc2 hb2
  go_wp2
  go_ret
  exact ⟨rfl, HB2.out⟩
theorem impl_LongestWait (A : Option Addr) (n c B : Nat) (zs : List Wnt) (w : World) (h : WntsAt w B A n zs) (hB : B ≤ w.heap.size) (hn : n ≤ 4294967296) :
    Calls Try.prog 47 #[.slice A n c] w fun e w' => e = .returned (.int .i64 (longW zs)) ∧ Below w.heap.size w w' := by
  have hl := h.1
  have hbw := (Below.refl w.heap.size w).alloc (Nat.le_refl _) (.cells #[.slice A n c] 64)
  by_cases h0 : n = 0
  · have HV : Hid (longW zs = 0) := Lib.hid (by unfold longW; rw [if_pos (by omega)])
    have HB := Lib.hid hbw
    subst h0
    clear hbw
    go_enter Try.func47, Try.ntmps47
    go_wp2
    go_ret
    exact ⟨by rw [HV.out]; try rfl, HB.out⟩
  · have hb0 : ((n : Int) == 0) = false := by simpa using h0
    have HV : Hid (longW zs = (gtK zs n).wait) := Lib.hid (by unfold longW; rw [if_neg (by omega), hl])
    obtain ⟨wA, hwA⟩ : ∃ wA, wA = w.alloc (.cells #[.slice A n c] 64) := ⟨_, rfl⟩
    obtain ⟨hk, hsz, hBl⟩ := one_block hwA
    have hcell : wA.cell? ⟨w.heap.size, 0, none⟩ = some (.slice A n c) := by rw [cell_of_row wA _ 0 _ _ _ hk]; rfl
    have hcc := impl_greatestW w.heap.size A n c B zs wA hcell (by omega) (h.below (hBl.mono hB)) (by omega) hn (by omega)
    generalize gtK zs n = q at *
    obtain ⟨a, b⟩ := q
    have h1 := ahead_want a b
    have m1 := method_want a b
    have hs1 := fun w => impl_size a b w
    simp only [szdV] at *
    have HB := Lib.hid hBl
    clear hk hBl hbw h hl h0
    go_enter Try.func47, Try.ntmps47
    go_wp2_with fail
    rw [← hwA]
    refine hcc.mono ?_
    rintro e w1 ⟨rfl, hb1⟩
    clear hwA hcc
    go_wp2_with fail
    refine (hs1 _).mono ?_
    rintro e w2 ⟨rfl, hb2⟩
    have HB2 := Lib.hid ((HB.out.trans (hb1.mono HB.out.size)).trans (hb2.mono (HB.out.trans (hb1.mono HB.out.size)).size))
    clear hb1 hb2
    go_wp2
    go_ret
    exact ⟨by rw [HV.out]; rfl, HB2.out⟩
set_option maxHeartbeats 1000000 in
theorem spec_LongestWait (A : Option Addr) (n c B : Nat) (zs : List Wnt) (w : World) (h : WntsAt w B A n zs) (hB : B ≤ w.heap.size) (hn : n ≤ 4294967296) :
    Calls Try.prog 45 #[.slice A n c] w fun e w' => e = .returned (.int .i64 (longW zs)) ∧ Below w.heap.size w w' := by
  have hl := h.1
  have HV0 : Hid (n = 0 → longW zs = 0) := Lib.hid (fun e => by unfold longW; rw [if_pos (by omega)])
  have HV : Hid (0 < n → longW zs = (gtK zs n).wait) := Lib.hid (fun e => by unfold longW; rw [if_neg (by omega), hl])
  go_enter Try.func45, Try.ntmps45
  go_wp2
  go_loopw [3, 4] (fun b i wr => ∃ k : Nat, k ≤ n ∧ i = .int .i64 k ∧ b = .int .i64 (bestW zs k) ∧ Below w.heap.size w wr) (fun _ i _ => n - (intOf i).toNat)
  case atStart => exact ⟨0, Nat.zero_le _, rfl, rfl, Below.refl _ _⟩
  case round =>
    obtain ⟨k, hk, rfl, rfl, hbl⟩ := hrel
    by_cases hlt : k < n
    · obtain ⟨ad, p, rfl, hab, hp, hqp⟩ := h.at hlt
      obtain ⟨c0, c1⟩ := hqp.below hbl (by omega)
      have i1 : (0 : Int) ≤ (k : Int) := by omega
      have i2 : (k : Int) < (n : Int) := by omega
      have HP := Lib.hid hp
      clear hp hqp
      by_cases hk0 : k = 0
      · have hb0 : ((k : Int) == 0) = true := by simpa using hk0
        have HR : Hid (bestW zs (k + 1) = p.wait) := Lib.hid (by
          have h5 := HP.out
          subst hk0
          rw [bestW_pos (by omega), gtK_one, wntA_some h5])
        clear hk0
        go_wp2
        go_roundw
        case rel => exact ⟨k + 1, by omega, by go_num, by rw [HR.out], hbl⟩
        case measure => simp [intOf]; omega
      · have hb0 : ((k : Int) == 0) = false := by simpa using hk0
        have HW := Lib.hid (bestW_pos (zs := zs) hk0)
        by_cases hgt : p.wait > bestW zs k
        · have HR : Hid (bestW zs (k + 1) = p.wait) := Lib.hid (by rw [bestW_pos (by omega), gtK_yes HP.out (by rw [← HW.out]; exact hgt)])
          go_wp2
          go_roundw
          case rel => exact ⟨k + 1, by omega, by go_num, by rw [HR.out], hbl⟩
          case measure => simp [intOf]; omega
        · have HR : Hid (bestW zs (k + 1) = bestW zs k) := Lib.hid (by rw [bestW_pos (by omega), gtK_no HP.out (by rw [← HW.out]; exact hgt), HW.out])
          go_wp2
          go_roundw
          case rel => exact ⟨k + 1, by omega, by go_num, by rw [HR.out], hbl⟩
          case measure => simp [intOf]; omega
    · obtain rfl : k = n := by omega
      by_cases hk0 : k = 0
      · have HR : Hid (longW zs = bestW zs k) := Lib.hid (by rw [HV0.out hk0]; unfold bestW; rw [if_pos hk0])
        go_wp2
        go_ret
        exact ⟨by rw [HR.out]; try rfl, hbl⟩
      · have HR : Hid (longW zs = bestW zs k) := Lib.hid (by rw [HV.out (by omega), bestW_pos hk0])
        go_wp2
        go_ret
        exact ⟨by rw [HR.out]; try rfl, hbl⟩
end Go.Proofs.Ytdgpodopkfnpeaa
