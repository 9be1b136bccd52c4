/- The walk of FnByteStrings. -/
import Derived.Test.YtekpopndjcdgiaaDraw2
import Derived.Test.YtekpopndjcdgiaaPut2
import Derived.Test.YtekpopndjcdgiaaGet5
import Derived.Test.YtekpopndjcdgiaaMem
import Derived.Test.YtekpopndjcdgiaaVarL
namespace Go.Proofs.Ytekpopndjcdgiaa
open Go.RowKit
set_option linter.unusedVariables false

theorem laws_at (A : Option Addr) (n c B i : Nat) (zs : List Int) (w : World) (hb : Bytes w B A n zs) (hn : n ≤ 1048576) (hi : i ≤ 1000000) :
    Calls Try.prog 23 #[.slice A n c, .int .i64 (i : Int)] w fun e w' => ∃ x : Nat, x < 256 ∧ e = .returned (.int .i64 (x : Int)) ∧ w = w' := by
  have hl := hb.1.1
  by_cases hlt : i < n
  · obtain ⟨ad, rfl, hab, hcell⟩ := hb.1.2 (by omega)
    have hci := hcell i hlt
    have hz : 0 ≤ zs.getD i 0 ∧ zs.getD i 0 ≤ 255 := by
      rw [List.getD_eq_getElem?_getD, List.getElem?_eq_getElem (by omega)]
      exact hb.2 _ (List.getElem_mem _)
    obtain ⟨x, hx⟩ := Int.eq_ofNat_of_zero_le hz.1
    rw [hx] at hci hz
    clear hcell hx
    go_enter Try.func23, Try.ntmps23
    go_wp2
    go_ret
    exact ⟨x, by omega, rfl, rfl⟩
  · go_enter Try.func23, Try.ntmps23
    go_wp2
    go_ret
    exact ⟨(i * 31 + n * 7) % 256, by omega, ret_i (by omega), rfl⟩
set_option maxHeartbeats 2000000 in
set_option maxRecDepth 100000 in
theorem walk_FnByteStrings (W : World) (A : Option Addr) (n c : Nat) (zs : List Int) (ha : IntsAt .u8 W W.heap.size A n zs ∧ (∀ z ∈ zs, (Lit.int .u8 z).wf = true) ∧ n ≤ c ∧ c ≤ maxLen) :
    Calls Try.prog 4 #[.slice A n c] W fun e w' => e = .returned (.bool true) ∧ Below W.heap.size W w' := by
  obtain ⟨hi, hw, hnc, hcm⟩ := ha
  unfold maxLen at hcm
  have hB : Bytes W W.heap.size A n zs := ⟨hi, fun z hz => by
    have h' : (decide (IntKind.u8.min ≤ z) && decide (z ≤ IntKind.u8.max)) = true := hw z hz
    simp only [Bool.and_eq_true, decide_eq_true_eq] at h'
    exact h'⟩
  have HB := Lib.hid hB
  clear hB hi hw
  by_cases hbig : 1048576 < n
  · go_enter Try.func4, Try.ntmps4
    go_wp2_with (go_at_call 13; refine (laws_big _ _ _ _ (by omega)).mono ?_; rintro e w' ⟨rfl, rfl⟩)
    go_ret
    exact ⟨rfl, Below.refl _ _⟩
  · go_enter Try.func4, Try.ntmps4
    go_wp2_with fail
    refine (laws_big _ _ _ _ (by omega)).mono ?_
    rintro e w' ⟨rfl, rfl⟩
    go_wp2_with fail
    refine (spec_DrawAppendBytes A n c _ zs _ HB.out (Nat.le_refl _) (by omega)).mono ?_
    rintro e w1 ⟨v1, l1, v2, l2, rfl, hown1, hl1, hby1, hown2, hl2, hby2, acc⟩
    obtain ⟨A1, c1, rfl⟩ := hown1.sliced
    obtain ⟨A2, c2, rfl⟩ := hown2.sliced
    have o1 := Ow.new hown1
    have o2 := Ow.new hown2
    clear hown1 hown2
    obtain ⟨r, hr⟩ : ∃ r, bput l1 l2 = r := ⟨_, rfl⟩
    have hg := rdBytes_put (zs := l1) (ds := l2) (by omega)
    have hs := rdBytes_short (zs := l1) (ds := l2) (by omega)
    have hrl : r.length ≤ 20 := by
      rw [← hr, bput_small (by omega), List.length_append, List.length_append]
      have := venc_six (n := l2.length) (by omega)
      omega
    have hrb : ∀ z ∈ r, (Lit.int .u8 z).wf = true := by
      rw [← hr]
      intro z hz
      rcases List.mem_append.1 hz with hz | hz
      · exact u8_wf (vput_byte _ hby1 z hz)
      · exact u8_wf (hby2 z hz)
    rw [hr] at hg hs
    have HR := Lib.hid hr
    have HG := Lib.hid hg
    have HS := Lib.hid hs
    have HRB := Lib.hid hrb
    clear hr hg hs hrb hby1 hby2
    go_wp2_with fail
    refine (impl_AppendBytes A1 _ c1 _ l1 A2 _ c2 _ l2 _ o1.ints o1.own.nilcap' (Nat.le_refl _) (by omega) o2.ints o2.own.nilcap' (Nat.le_refl _) (by omega)).mono ?_
    rw [HR.out]
    rintro e w2 ⟨v3, rfl, hown3, hb⟩
    obtain ⟨A3, c3, rfl⟩ := hown3.sliced
    replace o2 := o2.below hb
    replace acc := acc.trans (hb.mono acc.size)
    have o3 := Ow.new hown3
    clear hown3 hb o1
    go_wp2_with fail
    refine (impl_ReadBytes A3 _ c3 r _ _ _ (o3.sl (by omega) HRB.out) _ _ _ HG.out).mono ?_
    rintro e w3 ⟨v4, rfl, hown4, hb, -⟩
    obtain ⟨A4, c4, rfl⟩ := hown4.sliced
    replace o2 := o2.below hb
    replace o3 := o3.below hb
    replace acc := acc.trans (hb.mono acc.size)
    have o4 := Ow.new hown4
    clear hown4 hb
    go_wp2_with fail
    refine (impl_ReadBytes A3 _ c3 r _ _ _ (o3.sl (by omega) HRB.out) _ _ _ HS.out).mono ?_
    rintro e w4 ⟨v5, rfl, hown5, hb, -⟩
    replace o2 := o2.below hb
    replace o4 := o4.below hb
    replace acc := acc.trans (hb.mono acc.size)
    clear hown5 hb o3
    go_wp2_with fail
    refine (sames_u8 A4 _ c4 l2 A2 _ c2 _ o4.ints o2.ints (by omega) (by omega)).mono ?_
    rintro e w5 ⟨rfl, hb⟩
    replace acc := acc.trans (hb.mono acc.size)
    clear hb o2 o4
    have hs5 := acc.size
    go_wp2
    go_loopw [12, 13] (fun v i wr => ∃ l : List Int, i = .int .i64 (l.length : Int) ∧ l.length ≤ 6 ∧ (∀ z ∈ l, 0 ≤ z ∧ z ≤ 1000000000000) ∧ Own .i64 3 wr W.heap.size v l ∧ Below W.heap.size W wr) (fun _ i _ => 6 - (intOf i).toNat)
    case atStart => exact ⟨[], rfl, Nat.zero_le _, by simp, (own_bare _ _ w5).mono acc.size, acc.alloc acc.size _⟩
    case round =>
      clear acc
      obtain ⟨l, rfl, hl6, hlb, hown, acc⟩ := hrel
      have HLB := Lib.hid hlb
      clear hlb
      go_wp2_with fail
      refine (laws_at A n c _ 0 zs _ (HB.out.keep fun p hp => acc.cell hp) (by omega) (by omega)).mono ?_
      rintro e w6 ⟨x0, hx0, rfl, rfl⟩
      by_cases hlt : l.length < x0 % 6
      · have hsz := acc.size
        go_wp2_with fail
        refine (laws_at A n c _ (l.length + 1) zs _ (HB.out.keep fun p hp => acc.cell hp) (by omega) (by omega)).mono ?_
        rintro e w7 ⟨x1, hx1, rfl, rfl⟩
        go_wp2_with fail
        refine (laws_at A n c _ (l.length + 2) zs _ (HB.out.keep fun p hp => acc.cell hp) (by omega) (by omega)).mono ?_
        rintro e w7 ⟨x2, hx2, rfl, rfl⟩
        go_wp2_with fail
        refine (laws_at A n c _ (l.length + 3) zs _ (HB.out.keep fun p hp => acc.cell hp) (by omega) (by omega)).mono ?_
        rintro e w7 ⟨x3, hx3, rfl, rfl⟩
        obtain ⟨z, hz⟩ : ∃ z : Int, z = (x1 : Int) * (x2 : Int) * (x3 : Int) := ⟨_, rfl⟩
        have hzr : 0 ≤ z ∧ z ≤ 16777216 := by
          have a1 : x1 * x2 ≤ 256 * 256 := Nat.mul_le_mul (by omega) (by omega)
          have a2 : x1 * x2 * x3 ≤ 256 * 256 * 256 := Nat.mul_le_mul a1 (by omega)
          have a3 : z = ((x1 * x2 * x3 : Nat) : Int) := by rw [hz]; simp
          omega
        have a4 : wrap64 ((x1 : Int) * (x2 : Int)) = (x1 : Int) * (x2 : Int) := by
          have a1 : x1 * x2 ≤ 256 * 256 := Nat.mul_le_mul (by omega) (by omega)
          have a3 : ((x1 : Int) * (x2 : Int)) = ((x1 * x2 : Nat) : Int) := by simp
          rw [a3]
          exact IntWalk.wrap64_in _ (by omega)
        have a5 : wrap64 ((x1 : Int) * (x2 : Int) * (x3 : Int)) = z := by
          rw [← hz]
          exact IntWalk.wrap64_in _ (by omega)
        obtain ⟨hz1, hz2⟩ := hzr
        have HZ := Lib.hid hz
        clear hz
        go_wp2_with (at_builtin; refine wpList_app1 rfl _ _ 35 rfl .i64 3 8 Try.underlying35 info_i64 W.heap.size _ l rfl hown (by decide) (by omega) z _ _ wr.heap.size hsz rfl (by simp) ?_; intro v8 w8 hown8 hgrow8 hat8)
        have acc8 := hown.push (Nat.le_refl _) (acc.alloc hsz _) (by simp; omega) hgrow8
        clear hgrow8 hat8 hown acc a4 a5
        go_roundw
        case rel => exact ⟨l ++ [z], by simp, by rw [List.length_append]; simp; omega, by intro y hy; rcases List.mem_append.1 hy with hy | hy; exact HLB.out y hy; rw [List.mem_singleton] at hy; omega, hown8, acc8⟩
        case measure => simp [intOf]; omega
      · have ol := Ow.new hown
        obtain ⟨A6, c6, rfl⟩ := hown.sliced
        clear hown
        have h1 := rdInts_put HLB.out (by omega)
        have h2 := rdInts_one_more HLB.out (by omega)
        obtain ⟨rr, hrr⟩ : ∃ rr, vputs [] l = rr := ⟨_, rfl⟩
        have hrlen : rr.length ≤ 36 := by rw [← hrr, vputs_encs l [] HLB.out, List.nil_append]; have := encs_length l HLB.out; omega
        have hrby : ∀ z ∈ rr, (Lit.int .u8 z).wf = true := by
          rw [← hrr]
          intro z hz
          exact u8_wf (vputs_byte l [] (by simp) z hz)
        rw [hrr] at h1 h2
        have HRR := Lib.hid hrr
        have H1 := Lib.hid h1
        have H2 := Lib.hid h2
        have HRY := Lib.hid hrby
        clear hrr h1 h2 hrby
        go_wp2_with fail
        refine (impl_EncodeInts A6 _ c6 _ l _ ol.ints (Nat.le_refl _) (by omega)).mono ?_
        rw [HRR.out]
        rintro e w7 ⟨v7, rfl, hown7, hb⟩
        obtain ⟨A7, c7, rfl⟩ := hown7.sliced
        replace ol := ol.below hb
        replace acc := acc.trans (hb.mono acc.size)
        have o7 := Ow.new hown7
        clear hown7 hb
        go_wp2_with fail
        refine (impl_DecodeInts A7 _ c7 rr _ _ _ (o7.sl (by omega) HRY.out) _ _ _ H1.out).mono ?_
        rintro e w8 ⟨v8, rfl, hown8, hb, -⟩
        obtain ⟨A8, c8, rfl⟩ := hown8.sliced
        replace ol := ol.below hb
        replace o7 := o7.below hb
        replace acc := acc.trans (hb.mono acc.size)
        have o8 := Ow.new hown8
        clear hown8 hb
        go_wp2_with fail
        refine (impl_DecodeInts A7 _ c7 rr _ _ _ (o7.sl (by omega) HRY.out) _ _ _ H2.out).mono ?_
        rintro e w9 ⟨v9, rfl, hown9, hb, -⟩
        replace ol := ol.below hb
        replace o8 := o8.below hb
        replace acc := acc.trans (hb.mono acc.size)
        clear hown9 hb o7
        go_wp2_with fail
        refine (sames_i64 A8 _ c8 l A6 _ c6 _ o8.ints ol.ints (by omega) (by omega)).mono ?_
        rintro e w10 ⟨rfl, hb⟩
        replace acc := acc.trans (hb.mono acc.size)
        go_wp2
        go_ret
        exact ⟨rfl, acc⟩
end Go.Proofs.Ytekpopndjcdgiaa
