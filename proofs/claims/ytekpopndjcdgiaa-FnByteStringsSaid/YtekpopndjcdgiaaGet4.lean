/- Contracts of the cursor's readers of byte strings and lists (the program). -/
import Derived.Test.YtekpopndjcdgiaaGet3
namespace Go.Proofs.Ytekpopndjcdgiaa
open Go.RowKit
set_option linter.unusedVariables false

theorem only_under {w w' : World} {g : Nat} (h : Below w.heap.size w w') : w.grownBy w' (some g) := only_of_below h _
theorem cursor_take (g : Nat) (ad : Addr) (n c q m : Nat) (w : World) (hc : CurAt w g (some ad) n c q) (hm : q + m ≤ n) (hn : n ≤ 1099511627776) (hcap : n ≤ c) :
    Calls Try.prog 63 #[.pointer (some ⟨g, 0, none⟩), .int .i64 m] w fun e w' => ∃ ad' : Addr, e = .returned (.slice (some ad') m m) ∧ (0 < m → ad' = ad.add q) ∧ w.grownBy w' (some g) ∧ CurAt w' g (some ad) n c (q + m) := by
  have hg : w.heap[g]? = _ := hc
  have c0 : w.cell? ⟨g, 0, none⟩ = some (.slice (some ad) n c) := by simp [World.cell?, hg]
  have c1 : w.cell? ⟨g, 1, none⟩ = some (.int .i64 q) := by simp [World.cell?, hg]
  have f0 : ∀ j, w.frozen? ⟨g, j, none⟩ = false := fun j => by simp [World.frozen?, hg]
  have HG := Lib.hid hg
  have hnew : ∀ w2 : World, w2.heap[g]? = w.heap[g]? → CurAt (w2.setCell ⟨g, 1, none⟩ (.int .i64 ((q : Int) + (m : Int)))) g (some ad) n c (q + m) := fun w2 h2 => by
    unfold CurAt; rw [heap_set (h2.trans HG.out) 1 _]; simp
  have HN := Lib.hid hnew
  clear hnew hg hc
  by_cases h0 : m = 0
  · subst h0
    go_enter Try.func63, Try.ntmps63
    go_wp2
    go_quiet (fail)
    go_wp2
    go_ret
    exact ⟨ad, by first | rfl | simp, fun h => absurd h (by omega), only_setCell (only_drewN (World.grownBy.refl _ _) _) _ _, by simpa using HN.out (w.drewN _) rfl⟩
  · have h1 : ¬ q + m = q := by omega
    go_enter Try.func63, Try.ntmps63
    go_wp2
    go_quiet (fail)
    go_wp2
    go_ret
    exact ⟨ad.add q, by first | rfl | simp, fun _ => rfl, only_setCell (only_drewN (World.grownBy.refl _ _) _) _ _, HN.out _ rfl⟩
theorem cursor_readBytes_no (g : Nat) (A : Option Addr) (n c B p : Nat) (zs : List Int) (most : Int) (w : World) (h : IntsAt .u8 w B A n zs) (hz : ∀ z ∈ zs, 0 ≤ z ∧ z ≤ 255) (hn : n ≤ 1099511627776) (hB : B ≤ g) (hp : p ≤ n) (hc : CurAt w g A n c p)
    (hno : ∀ m q, vrd zs 6 p 0 = some (m, q) → most < (m : Int) ∨ (n : Int) - (q : Int) < (m : Int)) :
    Calls Try.prog 54 #[.pointer (some ⟨g, 0, none⟩), .int .i64 most] w fun e w' => e = .returned (.tuple #[.slice none 0 0, .bool false]) ∧ w.grownBy w' (some g) := by
  have hl := h.1
  cases hv : vrd zs 6 p 0 with
  | none =>
    have HV := Lib.hid hv
    clear hno
    go_enter Try.func54, Try.ntmps54
    go_wp2_with fail
    refine (cursor_readUvarint g A n c B p zs _ h hz hn hB hp hc).mono ?_
    rintro e w1 ⟨rfl, hg1, -⟩
    rw [HV.out]
    simp only [curV]
    clear hv
    go_wp2
    go_quiet (fail)
    go_wp2
    go_ret2
    exact ⟨rfl, only_drewN hg1 _⟩
  | some mq =>
    obtain ⟨m, q⟩ := mq
    obtain ⟨hm, hq0, hq⟩ := vrd_facts zs 6 p 0 _ hv
    simp only at hm hq0 hq
    have HV := Lib.hid hv
    have hn2 := hno m q hv
    clear hno
    rcases (show (most < (m : Int)) ∨ (¬ most < (m : Int) ∧ (n : Int) - (q : Int) < (m : Int)) by omega) with hb | ⟨hb1, hb2⟩
    all_goals
      go_enter Try.func54, Try.ntmps54
      go_wp2_with fail
      refine (cursor_readUvarint g A n c B p zs _ h hz hn hB hp hc).mono ?_
      rintro e w1 ⟨rfl, hg1, hc1⟩
      have hcu := hc1 m q HV.out
      have hg : w1.heap[g]? = _ := hcu
      have c0 : w1.cell? ⟨g, 0, none⟩ = some (.slice A n c) := by simp [World.cell?, hg]
      have c1 : w1.cell? ⟨g, 1, none⟩ = some (.int .i64 q) := by simp [World.cell?, hg]
      rw [HV.out]
      simp only [curV]
      clear hv hc1 hcu hg hn2
      have hwr : IntKind.i64.wrap ((n : Int) - (q : Int)) = (n : Int) - (q : Int) := by rw [IntKind.wrap_i64]; omega
      go_wp2
      go_quiet (fail)
      go_wp2
      go_ret2
      exact ⟨rfl, only_drewN hg1 _⟩
theorem cursor_readBytes_yes (g : Nat) (A : Option Addr) (n c B p : Nat) (zs : List Int) (most : Int) (w : World) (h : IntsAt .u8 w B A n zs) (hz : ∀ z ∈ zs, 0 ≤ z ∧ z ≤ 255) (hn : n ≤ 1099511627776) (hcap : n ≤ c) (hB : B ≤ g) (hp : p ≤ n) (hc : CurAt w g A n c p)
    (m q : Nat) (hv : vrd zs 6 p 0 = some (m, q)) (hno : ¬ (most < (m : Int) ∨ (n : Int) - (q : Int) < (m : Int))) :
    Calls Try.prog 54 #[.pointer (some ⟨g, 0, none⟩), .int .i64 most] w fun e w' => ∃ v, e = .returned (.tuple #[v, .bool true]) ∧ Own .u8 5 w' w.heap.size v ((zs.drop q).take m) ∧ w.grownBy w' (some g) ∧ CurAt w' g A n c (q + m) := by
  have hl := h.1
  have hgl := lt_of_block hc
  obtain ⟨hm, hq0, hq⟩ := vrd_facts zs 6 p 0 _ hv
  simp only at hm hq0 hq
  have HV := Lib.hid hv
  have hb1 : ¬ most < (m : Int) := by omega
  have hb2 : ¬ (n : Int) - (q : Int) < (m : Int) := by omega
  obtain ⟨ad, rfl, hab, -⟩ := h.2 (by omega)
  have hsub := fun A2 => h.sub q m (by omega) A2
  have HS := Lib.hid hsub
  clear hsub hv hno
  go_enter Try.func54, Try.ntmps54
  go_wp2_with fail
  refine (cursor_readUvarint g (some ad) n c B p zs _ h hz hn hB hp hc).mono ?_
  rintro e w1 ⟨rfl, hg1, hc1⟩
  have hcu := hc1 m q HV.out
  have hg : w1.heap[g]? = _ := hcu
  have c0 : w1.cell? ⟨g, 0, none⟩ = some (.slice (some ad) n c) := by simp [World.cell?, hg]
  have c1 : w1.cell? ⟨g, 1, none⟩ = some (.int .i64 q) := by simp [World.cell?, hg]
  rw [HV.out]
  simp only [curV]
  clear hc1 hg
  have hwr : IntKind.i64.wrap ((n : Int) - (q : Int)) = (n : Int) - (q : Int) := by rw [IntKind.wrap_i64]; omega
  go_wp2
  go_quiet (fail)
  clear c0 c1 hwr
  go_wp2_with fail
  refine (cursor_take g ad n c q m _ (by exact hcu) (by omega) hn hcap).mono ?_
  rintro e w2 ⟨ad', rfl, had, hg2, hc2⟩
  have hg12 := only_trans (only_drewN hg1 _) hg2
  have hs := hg12.size
  go_wp2_with fail
  refine (bytes_Clone (some ad') m m B ((zs.drop q).take m) _ ((HS.out (some ad') (fun h0 => by rw [had h0])).keep fun p' hp' => World.cell?_of_block (hg12.block p'.block (by omega) (by intro e; injection e with e; omega))) (by simp) (by omega) (by omega)).mono ?_
  rintro e w3 ⟨v, rfl, hown, hb⟩
  go_wp2
  go_ret2
  exact ⟨v, rfl, hown.mono hs, only_trans hg12 (only_under hb), (hb.block g (by omega)).trans hc2⟩
theorem impl_ReadBytes (A : Option Addr) (n c : Nat) (zs : List Int) (a most : Int) (w : World) (h : Sl .u8 w A n c zs) (r0 : List Int) (r1 : Int) (r2 : Bool) (hr : rdBytes zs a most = (r0, r1, r2)) :
    Calls Try.prog 22 #[.slice A n c, .int .i64 a, .int .i64 most] w fun e w' => ∃ v, e = .returned (.tuple #[v, .int .i64 r1, .bool r2]) ∧ Own .u8 5 w' w.heap.size v r0 ∧ Below w.heap.size w w' ∧ r0.length ≤ 4398046511104 := by
  have hl := h.len
  have hn := h.small
  by_cases hin : 0 ≤ a ∧ a ≤ n
  · obtain ⟨p, rfl⟩ := Int.eq_ofNat_of_zero_le hin.1
    have hp : p ≤ n := by omega
    clear hin
    have hvp := vget_nat zs p
    by_cases hgood : ∃ m q, vrd zs 6 p 0 = some (m, q) ∧ ¬ (most < (m : Int) ∨ (n : Int) - (q : Int) < (m : Int))
    · obtain ⟨m, q, hv, hno⟩ := hgood
      rw [rdBytes_good (hvp.trans hv) (by omega)] at hr
      injection hr with h1 hr
      injection hr with h2 h3
      subst h1; subst h2; subst h3
      have hlen : ((zs.drop q).take m).length ≤ 4398046511104 := by rw [List.length_take, List.length_drop]; omega
      have HLE := Lib.hid hlen
      have HV := Lib.hid hv
      clear hlen hvp hv
      go_enter Try.func22, Try.ntmps22
      go_wp2_with fail
      refine (impl_cursorAt_yes A n c p _ hp).mono ?_
      rintro e w1 ⟨rfl, hb1⟩
      have hs1 := hb1.size
      go_wp2_with fail
      refine (cursor_readBytes_yes w1.heap.size A n c w.heap.size p zs most _ (h.ints.keep fun q hq => ((hb1.alloc hs1 _).cell hq)) h.u8 hn h.cap.1 hs1 hp (heap_alloc_new w1 _) m q HV.out hno).mono ?_
      rintro e w2 ⟨v, rfl, hown, hg2, hc2⟩
      have hb2 := ((hb1.alloc hs1 _).trans (below_of_grown hg2 hs1 (by simp; omega)))
      have hg : w2.heap[w1.heap.size]? = _ := hc2
      have c1 : w2.cell? ⟨w1.heap.size, 1, none⟩ = some (.int .i64 ((q + m : Nat) : Int)) := by simp [World.cell?, hg]
      have hown2 := hown.mono (lo' := w.heap.size) (by simp; omega)
      clear hg2 hc2 hg hown hno
      go_wp2
      go_quiet (fail)
      go_wp2
      go_ret3
      exact ⟨v, rfl, hown2, belowN hb2 _, HLE.out⟩
    · have hno : ∀ m q, vrd zs 6 p 0 = some (m, q) → most < (m : Int) ∨ (n : Int) - (q : Int) < (m : Int) := fun m q hv => Classical.byContradiction fun h' => hgood ⟨m, q, hv, h'⟩
      have hr0 : rdBytes zs (p : Int) most = ([], 0, false) := by
        cases hv : vrd zs 6 p 0 with
        | none => exact rdBytes_none most (hvp.trans hv)
        | some mq => obtain ⟨m, q⟩ := mq; exact rdBytes_bad (hvp.trans hv) (by have := hno m q hv; omega)
      rw [hr0] at hr
      injection hr with h1 hr
      injection hr with h2 h3
      subst h1; subst h2; subst h3
      have HN := Lib.hid hno
      clear hno hgood hvp hr0
      go_enter Try.func22, Try.ntmps22
      go_wp2_with fail
      refine (impl_cursorAt_yes A n c p _ hp).mono ?_
      rintro e w1 ⟨rfl, hb1⟩
      have hs1 := hb1.size
      go_wp2_with fail
      refine (cursor_readBytes_no w1.heap.size A n c w.heap.size p zs most _ (h.ints.keep fun q hq => ((hb1.alloc hs1 _).cell hq)) h.u8 hn hs1 hp (heap_alloc_new w1 _) HN.out).mono ?_
      rintro e w2 ⟨rfl, hg2⟩
      have hb2 := ((hb1.alloc hs1 _).trans (below_of_grown hg2 hs1 (by simp; omega)))
      have hs2 := hb2.size
      clear hg2
      go_wp2
      go_ret3
      exact ⟨_, rfl, (own_bare _ _ _).mono hs2, hb2.alloc hs2 _, by simp⟩
  · have hv : vget zs a = none := by
      by_cases h0 : a < 0
      · exact vget_neg h0
      · exact vget_out (by omega)
    rw [rdBytes_none most hv] at hr
    injection hr with h1 hr
    injection hr with h2 h3
    subst h1; subst h2; subst h3
    have hf : inB a 0 n = false := by simp [inB]; omega
    clear hv hin
    go_enter Try.func22, Try.ntmps22
    go_wp2_with fail
    refine (impl_cursorAt_no A n c a _ hf).mono ?_
    rintro e w1 ⟨rfl, hb1⟩
    have hs1 := hb1.size
    clear hf
    go_wp2
    go_ret3
    refine ⟨_, rfl, ?_, (hb1.alloc hs1 _).alloc (by simp; omega) _, by simp⟩
    have hob := own_bare .u8 5 (w1.alloc (.cells #[.slice none 0 0, .int .i64 0] 55))
    rw [show (w1.alloc (.cells #[.slice none 0 0, .int .i64 0] 55)).heap.size = w1.heap.size + 1 by simp] at hob
    exact hob.mono (by omega)
end Go.Proofs.Ytekpopndjcdgiaa
