/- The walk of FnLinks (a beginning: the first law; the rest is wanted). -/
import Derived.Test.YtdlcjmdkafebpaaDraw23b
import Derived.Test.YtdlcjmdkafebpaaLnkR
import Derived.Test.YtdlcjmdkafebpaaLnkA
import Derived.Test.YtdlcjmdkafebpaaLnkS
import Derived.Test.YtdlcjmdkafebpaaLnkI
import Derived.Test.YtdlcjmdkafebpaaLnkC
import Derived.Test.YtdlcjmdkafebpaaName
import Derived.Test.YtdlcjmdkafebpaaGrow
namespace Go.Proofs.Ytdlcjmdkafebpaa
open Go.RowKit
set_option linter.unusedVariables false

theorem u8_of_wfL {z : Int} (h : (Lit.int .u8 z).wf = true) : 0 ≤ z ∧ z ≤ 255 := by
  have h' : (decide (IntKind.u8.min ≤ z) && decide (z ≤ IntKind.u8.max)) = true := h
  simp only [Bool.and_eq_true, decide_eq_true_eq] at h'
  exact h'
theorem str_someL {s : ByteArray} (h : s ≠ ⟨#[]⟩) : s.toList.isEmpty = false := by
  rw [Go.ByteArray.toList_eq, Bool.eq_false_iff]
  intro hc
  apply h
  have e : s.data.toList = [] := List.isEmpty_iff.1 hc
  exact ByteArray.ext (Array.toList_inj.1 e)
theorem impl_StateNameL (n : Int) (w : World) : Calls Try.prog 60 #[.int .i64 n] w fun e w' => e = .returned (.string (nameT ⟨#[115, 116, 101, 112]⟩ ⟨#[102, 114, 101, 101]⟩ ⟨#[97, 108, 111, 110, 101]⟩ n)) ∧ Below w.heap.size w w' := by
  go_enter Try.func60, Try.ntmps60
  go_wp2_with fail
  refine (impl_nameOf ⟨#[115, 116, 101, 112]⟩ ⟨#[102, 114, 101, 101]⟩ ⟨#[97, 108, 111, 110, 101]⟩ n w.heap.size _ (by go_simp) (by go_simp) (by go_simp) (by simp)).mono ?_
  rintro e w1 ⟨rfl, hb1⟩
  go_wp2
  go_ret
  exact ⟨rfl, ((Below.refl _ _).alloc (Nat.le_refl _) _).trans (hb1.mono (by simp))⟩
theorem info_i64L : (Try.prog.info? 3).map (fun i => (i.zero, i.size, i.bytes)) = some (some (.int .i64 0), 1, 8) := by kernel_rfl
set_option maxHeartbeats 4000000 in
set_option maxRecDepth 100000 in
theorem walk_FnLinks (W : World) (A : Option Addr) (n c : Nat) (zs : List Int) (ha : IntsAt .u8 W W.heap.size A n zs ∧ (∀ z ∈ zs, (Lit.int .u8 z).wf = true) ∧ n ≤ c ∧ c ≤ maxLen) :
    Calls Try.prog 12 #[.slice A n c] W fun e w' => e = .returned (.bool true) ∧ Below W.heap.size W w' := by
  obtain ⟨ha1, ha2, ha3, ha4⟩ := ha
  unfold maxLen at ha4
  have hb : Bytes W W.heap.size A n zs := ⟨ha1, fun z hz => u8_of_wfL (ha2 z hz)⟩
  have HB := Lib.hid hb
  clear ha1 ha2 hb
  by_cases hbig : 1048576 < n
  · go_enter Try.func12, Try.ntmps12
    go_wp2_with fail
    refine (laws_big _ _ _ _ (by omega)).mono ?_
    rintro e w' ⟨rfl, rfl⟩
    go_wp2
    go_ret
    exact ⟨rfl, Below.refl _ _⟩
  · go_enter Try.func12, Try.ntmps12
    go_wp2_with fail
    refine (laws_big _ _ _ _ (by omega)).mono ?_
    rintro e w' ⟨rfl, rfl⟩
    go_wp2_with fail
    refine (spec_DrawHearAll A n c _ zs _ HB.out (Nat.le_refl _) (by omega)).mono ?_
    rintro e w1 ⟨⟨p0, p1, p2, p3⟩, A', n', c', l, t, o, -, hn', hl, ht, ho, rfl, hi, hb1⟩
    obtain ⟨w2, hw2⟩ : ∃ w2, w2 = w1.alloc (.cells #[.int .i64 p0, .int .i64 p1, .int .i64 p2, .int .i64 p3] 74) := ⟨_, rfl⟩
    obtain ⟨hk2, hsz2, hB2⟩ := one_block hw2
    have hsz1 := hb1.size
    have acc2 := hb1.trans (hB2.mono hsz1)
    have bp : LnkAt w2 ⟨w1.heap.size, 0, none⟩ ⟨p0, p1, p2, p3⟩ := lnk_of_block (p := ⟨p0, p1, p2, p3⟩) hk2
    have hi2 : IntsAt .i64 w2 w1.heap.size A' n' l := hi.keep fun p hp => hB2.cell hp
    have hlen := hi.1
    have own0 := own_bare .i64 3 w2
    have hb0 : Below w2.heap.size w2 (w2.alloc (.cells #[] 3)) := (Below.refl _ _).alloc (Nat.le_refl _) _
    have lt2 : w1.heap.size < w2.heap.size := by omega
    have HBP := Lib.hid bp
    have HACC2 := Lib.hid acc2
    have HI2 := Lib.hid hi2
    have HLEN := Lib.hid hlen
    have HSZ2 := Lib.hid hsz2
    simp only [Lnk.val]
    clear hk2 hB2 hb1 acc2 bp hi hi2 hsz2 hlen hl ht ho
    go_wp2_with (rw [← hw2])
    clear hw2
    go_loopw [7, 8] (fun v i wr => ∃ k : Nat, k ≤ n' ∧ i = .int .i64 k ∧ Own .i64 3 wr w2.heap.size v (l.take k).reverse ∧ Below w2.heap.size w2 wr) (fun _ i _ => n' - (intOf i).toNat)
    case atStart => exact ⟨0, Nat.zero_le _, rfl, by rw [← HSZ2.out]; exact own0, hb0⟩
    case round =>
      clear own0 hb0
      obtain ⟨k, hk, rfl, hown, hbl⟩ := hrel
      have hsz := hbl.size
      by_cases hlt : k < n'
      · obtain ⟨ad, rfl, hab, hcell⟩ := HI2.out.2 (by omega)
        have hc := (hbl.cell (p := ad.add k) (by rw [add_block]; omega)).trans (hcell k hlt)
        have hz : l[k]? = some (l.getD k 0) := by rw [List.getD_eq_getElem?_getD, List.getElem?_eq_getElem (by have := HLEN.out; omega)]; rfl
        generalize l.getD k 0 = z at *
        have i1 : (0 : Int) ≤ (k : Int) := by omega
        have i2 : (k : Int) < (n' : Int) := by omega
        have HREV := Lib.hid (show (l.take (k + 1)).reverse = [z] ++ (l.take k).reverse by rw [List.take_add_one, hz]; simp)
        have hlr : (l.take k).reverse.length ≤ 4 := by rw [List.length_reverse, List.length_take]; omega
        generalize (l.take k).reverse = r at *
        obtain ⟨Ar, cr, rfl⟩ := hown.sliced
        have hlit := own_lit (k := .i64) (E := 3) wr [z] 1 (Nat.le_refl _) (by decide) rfl
        have hsrc := (hown.alloc (.cells #[.int .i64 z] 3)).ints
        have hnil := ownr_nilcap hown
        have hba := hbl.alloc hsz (.cells #[.int .i64 z] 3)
        have hsa : wr.heap.size ≤ (wr.alloc (.cells #[.int .i64 z] 3)).heap.size := by simp
        simp only [List.map_cons, List.map_nil] at hlit
        clear hcell hz
        go_wp2_with (at_builtin; refine wpList_app rfl _ _ 22 22 rfl .i64 3 3 8 Try.underlying22 Try.underlying22 info_i64L wr.heap.size _ [z] rfl hlit Ar r.length cr _ r rfl hsrc hnil (by decide) (by simp; omega) hsa ?_; intro v4 w4 hown4 hgrow4 hat4; clear hat4)
        have HO4 := Lib.hid (hown4.mono hsz)
        have HB4 := Lib.hid (hba.grown hgrow4 hba.size (fun j hj => by cases hj; exact hsz))
        clear hown4 hgrow4 hlit hsrc hown hbl hba hc
        go_roundw
        case rel => exact ⟨k + 1, by omega, by go_num, by rw [HREV.out]; exact HO4.out, HB4.out⟩
        case measure => simp [intOf]; omega
      · obtain rfl : k = n' := by omega
        rw [List.take_of_length_le (by have := HLEN.out; omega)] at hown
        obtain ⟨Ab, cb, rfl⟩ := hown.sliced
        have bpr := HBP.out.below hbl lt2
        obtain ⟨k0, k1, k2, k3⟩ := lnk_head bpr
        simp only at k0 k1 k2 k3
        have hla := HLEN.out
        have hca := impl_HearAll ⟨p0, p1, p2, p3⟩ A' k c' _ l t o wr (HI2.out.keep fun p hp => hbl.cell (by omega)) (by omega) (by omega)
        have hup := hearAll_up t o l ⟨p0, p1, p2, p3⟩
        have hrv := hearAll_rev ⟨p0, p1, p2, p3⟩ l t o
        have HOWN := Lib.hid hown
        have HBL := Lib.hid hbl
        have HBPR := Lib.hid bpr
        rw [List.length_reverse, hla] at *
        generalize hearAll ⟨p0, p1, p2, p3⟩ l t o = x at *
        obtain ⟨x0, x1, x2, x3⟩ := x
        simp only [Lnk.val] at hca hup
        clear hown hbl bpr
        go_wp2_with fail
        refine hca.mono ?_
        rintro e w5 ⟨rfl, hb5⟩
        obtain ⟨w6, hw6⟩ : ∃ w6, w6 = w5.alloc (.cells #[.int .i64 x0, .int .i64 x1, .int .i64 x2, .int .i64 x3] 74) := ⟨_, rfl⟩
        obtain ⟨hk6, hsz6, hB6⟩ := one_block hw6
        have hsz5 := hb5.size
        have hszr := HBL.out.size
        have bx6 : LnkAt w6 ⟨w5.heap.size, 0, none⟩ ⟨x0, x1, x2, x3⟩ := lnk_of_block (p := ⟨x0, x1, x2, x3⟩) hk6
        have acc5 := hb5.trans (hB6.mono hsz5)
        have bp6 := HBPR.out.below acc5 (by simp only; omega)
        have acc6 := HBL.out.trans (acc5.mono hszr)
        have lt6 : w5.heap.size < w6.heap.size := by omega
        have lt7 : w1.heap.size < w6.heap.size := by omega
        have f0 := fun y : GW w6 => (lnk_head (bp6.below y.ok lt7)).1
        have f1 := fun y : GW w6 => (lnk_head (bp6.below y.ok lt7)).2.1
        have f2 := fun y : GW w6 => (lnk_head (bp6.below y.ok lt7)).2.2.1
        have f3 := fun y : GW w6 => (lnk_head (bp6.below y.ok lt7)).2.2.2
        have g0 := fun y : GW w6 => (lnk_head (bx6.below y.ok lt6)).1
        have g1 := fun y : GW w6 => (lnk_head (bx6.below y.ok lt6)).2.1
        have g2 := fun y : GW w6 => (lnk_head (bx6.below y.ok lt6)).2.2.1
        have g3 := fun y : GW w6 => (lnk_head (bx6.below y.ok lt6)).2.2.2
        have hback : IntsAt .i64 w6 wr.heap.size Ab k l.reverse := by
          have h7 := HOWN.out.ints
          exact h7.keep fun p hp => acc5.cell hp
        have hcb := fun y : GW w6 => impl_HearAll ⟨p0, p1, p2, p3⟩ Ab k cb wr.heap.size l.reverse t o y.val (hback.keep fun p hp => y.ok.cell (by omega)) (by have := y.ok.size; omega) (by omega)
        rw [hrv] at hcb
        simp only [Lnk.val] at hcb
        have hnq := fun W => neq_lnk x0 x1 x2 x3 x0 x1 x2 x3 W
        simp only [ne_eq, not_true_eq_false, decide_false] at hnq
        have u1 : ¬ x1 < p1 := by have := hup.1; omega
        have u2 : ¬ x2 < p2 := by have := hup.2; omega
        have v1 : decide (x1 < p1) = false := decide_eq_false u1
        have v2 : decide (x2 < p2) = false := decide_eq_false u2
        have HACC6 := Lib.hid (HACC2.out.trans (acc6.mono HACC2.out.size))
        simp only at f0 f1 f2 f3 g0 g1 g2 g3
        clear hk6 hsz6 hB6 bx6 acc5 bp6 acc6 hback hca hb5 k0 k1 k2 k3 hup hrv
        go_wp2
        rw [← hw6]
        clear hw6
        refine wp_region_grow (by kernel_rfl) (by kernel_rfl) ?_
        repeat (go_big_quiet_step (first | (go_at_call 57; exact calls_gw _ (hcb _))))
        refine wpQuiet_nil ?_
        intro x3
        have hb3 := x3.ok
        generalize x3.val = w7 at *
        have HBX := Lib.hid (HACC6.out.trans (hb3.mono HACC6.out.size))
        clear f0 f1 f2 f3 g0 g1 g2 g3 hcb hnq u1 u2 v1 v2 hb3
        go_wp2_with fail
        refine (spec_DrawLinkState A n c _ zs _ (HB.out.below HBX.out) HBX.out.size (by omega)).mono ?_
        rintro e w8 ⟨⟨q0, q1, q2, q3⟩, m, -, ⟨hm1, hm2⟩, rfl, hb8⟩
        -- the second law
        obtain ⟨w9, hw9⟩ : ∃ w9, w9 = w8.alloc (.cells #[.int .i64 q0, .int .i64 q1, .int .i64 q2, .int .i64 q3] 74) := ⟨_, rfl⟩
        obtain ⟨hk9, hsz9, hB9⟩ := one_block hw9
        have hsz8 := hb8.size
        have hszB := HBX.out.size
        have acc9 := HBX.out.trans ((hb8.trans (hB9.mono hsz8)).mono hszB)
        have bq : LnkAt w9 ⟨w8.heap.size, 0, none⟩ ⟨q0, q1, q2, q3⟩ := lnk_of_block (p := ⟨q0, q1, q2, q3⟩) hk9
        have lt9 : w8.heap.size < w9.heap.size := by omega
        have hls := impl_LinkState ⟨q0, q1, q2, q3⟩ m w9
        have hlu := fun (h : q2 ≤ m) => lkS_up (k := ⟨q0, q1, q2, q3⟩) (t := m) h
        have hlt := fun w => impl_LinkState ⟨q0, q1, q2, q3⟩ (m + 1) w
        have hin := lkS_in ⟨q0, q1, q2, q3⟩ m
        generalize lkS ⟨q0, q1, q2, q3⟩ m = s at *
        generalize lkS ⟨q0, q1, q2, q3⟩ (m + 1) = s2 at *
        have hsn := fun w => impl_StateNameL s w
        have hne : (nameT ⟨#[115, 116, 101, 112]⟩ ⟨#[102, 114, 101, 101]⟩ ⟨#[97, 108, 111, 110, 101]⟩ s).toList.isEmpty = false := by
          refine str_someL ?_
          rcases hin with rfl | rfl | rfl <;> (intro e; have := congrArg (fun b : ByteArray => b.data.size) e; simp [nameT] at this)
        generalize nameT ⟨#[115, 116, 101, 112]⟩ ⟨#[102, 114, 101, 101]⟩ ⟨#[97, 108, 111, 110, 101]⟩ s = S at *
        obtain ⟨k0, k1, k2, k3⟩ := lnk_head bq
        simp only at k0 k1 k2 k3
        simp only [Lnk.val] at hls hlt ⊢
        have hwm : IntKind.i64.wrap (m + 1) = m + 1 := by rw [IntKind.wrap_i64]; omega
        have HBQ := Lib.hid bq
        have HACC9 := Lib.hid acc9
        clear hk9 hsz9 hB9 hb8 acc9 bq hin HBX
        go_wp2_with fail
        rw [← hw9]
        clear hw9
        go_wp2_with fail
        refine hls.mono ?_
        rintro e w10 ⟨rfl, hb10⟩
        have HB10 := Lib.hid (HACC9.out.trans (hb10.mono HACC9.out.size))
        have HBQ10 := Lib.hid (HBQ.out.below hb10 lt9)
        have lt10 : w8.heap.size < w10.heap.size := Nat.lt_of_lt_of_le lt9 hb10.size
        clear hls hb10 k0 k1 k2 k3
        go_wp2_with fail
        refine (hsn _).mono ?_
        rintro e w11 ⟨rfl, hb11⟩
        obtain ⟨k0, k1, k2, k3⟩ := lnk_head (HBQ10.out.below hb11 lt10)
        simp only at k0 k1 k2 k3
        have HB11 := Lib.hid (HB10.out.trans (hb11.mono HB10.out.size))
        clear hsn hb11
        by_cases h1 : m < 1000000
        · by_cases h2 : q2 ≤ m
          · have hs2 := hlu h2
            have v1 : ¬ s2 < s := by omega
            have v2 : m ≥ q2 := h2
            clear hlu hs2
            go_wp2_with fail
            refine (hlt _).mono ?_
            rintro e w12 ⟨rfl, hb12⟩
            have HBX := Lib.hid (HB11.out.trans (hb12.mono HB11.out.size))
            clear hb12 hlt k0 k1 k2 k3
            go_wp2_with fail
            clear v1 v2 h1 h2 hwm
            go_wp2_with fail
            refine (spec_DrawHearLink A n c _ zs _ (HB.out.below HBX.out) HBX.out.size (by omega)).mono ?_
            rintro e w13 ⟨⟨r0, r1, r2, r3⟩, sq, tt, oo, -, -, -, -, rfl, hb13⟩
            obtain ⟨w14, hw14⟩ : ∃ w14, w14 = w13.alloc (.cells #[.int .i64 r0, .int .i64 r1, .int .i64 r2, .int .i64 r3] 74) := ⟨_, rfl⟩
            obtain ⟨hk14, hsz14, hB14⟩ := one_block hw14
            have hsz13 := hb13.size
            have hszX := HBX.out.size
            have acc14 := HBX.out.trans ((hb13.trans (hB14.mono hsz13)).mono hszX)
            have br : LnkAt w14 ⟨w13.heap.size, 0, none⟩ ⟨r0, r1, r2, r3⟩ := lnk_of_block (p := ⟨r0, r1, r2, r3⟩) hk14
            have lt14 : w13.heap.size < w14.heap.size := by omega
            have hhl := impl_HearLink ⟨r0, r1, r2, r3⟩ sq tt oo w14
            obtain ⟨k0, k1, k2, k3⟩ := lnk_head br
            simp only at k0 k1 k2 k3
            have HBR := Lib.hid br
            have HACC14 := Lib.hid acc14
            clear hk14 hsz14 hB14 hb13 acc14 br HBX
            simp only [Lnk.val]
            cases hok : (hearL ⟨r0, r1, r2, r3⟩ sq tt oo).2
            · have hy := hearR_not hok
              rw [hok, hy] at hhl
              simp only [Lnk.val] at hhl
              have hnq := fun W => neq_lnk r0 r1 r2 r3 r0 r1 r2 r3 W
              simp only [ne_eq, not_true_eq_false, decide_false] at hnq
              clear hok hy
              go_wp2_with fail
              rw [← hw14]
              clear hw14
              go_wp2_with fail
              refine hhl.mono ?_
              rintro e w15 ⟨rfl, hb15⟩
              have hsz15 := hb15.size
              have lt16 : w13.heap.size < w15.heap.size := Nat.lt_of_lt_of_le lt14 hsz15
              obtain ⟨k0, k1, k2, k3⟩ := lnk_head (HBR.out.below hb15 lt14)
              simp only at k0 k1 k2 k3
              have HBX := Lib.hid ((HACC14.out.trans (hb15.mono HACC14.out.size)).alloc (HACC14.out.trans (hb15.mono HACC14.out.size)).size (.cells #[.int .i64 r0, .int .i64 r1, .int .i64 r2, .int .i64 r3] 74))
              clear hb15 hhl
              go_wp2_with fail
              refine (spec_DrawInStep A n c _ zs _ (HB.out.below HBX.out) HBX.out.size (by omega)).mono ?_
              rintro e w21 ⟨Ai, ni, ci, li, u, hni, -, rfl, hli, hb21⟩
              have HB21 := Lib.hid (HBX.out.trans (hb21.mono HBX.out.size))
              have hst := impl_InStep Ai ni ci _ li u w21 hli (Nat.le_refl _) (by omega)
              clear hb21
              cases hin : inStepB li u
              · rw [hin] at hst
                clear hin hli
                go_wp2_with fail
                refine hst.mono ?_
                rintro e w22 ⟨rfl, hb22⟩
                go_wp2
                go_ret
                exact ⟨rfl, HB21.out.trans (hb22.mono HB21.out.size)⟩
              · rw [hin] at hst
                by_cases h0 : ni = 0
                · subst h0
                  clear hin hli
                  go_wp2_with fail
                  refine hst.mono ?_
                  rintro e w22 ⟨rfl, hb22⟩
                  go_wp2
                  go_ret
                  exact ⟨rfl, HB21.out.trans (hb22.mono HB21.out.size)⟩
                · obtain ⟨ad, ⟨y0, y1, y2, y3⟩, rfl, hab, hp, hq⟩ := hli.at (k := 0) (by omega)
                  have ha0 : ad.add (0 * 4) = ad := by simp [Addr.add]
                  rw [ha0] at hab hq
                  have hz : lkS ⟨y0, y1, y2, y3⟩ u = 0 := by simpa using List.all_eq_true.1 hin _ (List.mem_of_getElem? hp)
                  have hls := fun w => impl_LinkState ⟨y0, y1, y2, y3⟩ u w
                  rw [hz] at hls
                  simp only [Lnk.val] at hls
                  have e0 : ((ni : Int) == 0) = false := by simp; omega
                  have j2 : (0 : Int) < (ni : Int) := by omega
                  clear hin hli hz hp
                  go_wp2_with fail
                  refine hst.mono ?_
                  rintro e w22 ⟨rfl, hb22⟩
                  obtain ⟨c0, c1, c2, c3⟩ := hq.below hb22 hab
                  simp only at c0 c1 c2 c3
                  have HB22 := Lib.hid (HB21.out.trans (hb22.mono HB21.out.size))
                  clear hq hb22 hst
                  go_wp2_with fail
                  refine (hls _).mono ?_
                  rintro e w23 ⟨rfl, hb23⟩
                  go_wp2
                  go_ret
                  exact ⟨rfl, HB22.out.trans (hb23.mono HB22.out.size)⟩
            · obtain ⟨hx1, hx2⟩ := hearR_ok hok
              rw [hok] at hhl
              generalize (hearL ⟨r0, r1, r2, r3⟩ sq tt oo).1 = y at *
              obtain ⟨x0, x1, x2, x3⟩ := y
              have hil := fun w => impl_IsLink ⟨x0, x1, x2, x3⟩ w
              have hls := fun w => impl_LinkState ⟨x0, x1, x2, x3⟩ tt w
              rw [hx1] at hil
              rw [hx2] at hls
              simp only [Lnk.val] at hhl hil hls
              clear hok hx1 hx2
              go_wp2_with fail
              rw [← hw14]
              clear hw14
              go_wp2_with fail
              refine hhl.mono ?_
              rintro e w15 ⟨rfl, hb15⟩
              obtain ⟨w16, hw16⟩ : ∃ w16, w16 = w15.alloc (.cells #[.int .i64 x0, .int .i64 x1, .int .i64 x2, .int .i64 x3] 74) := ⟨_, rfl⟩
              obtain ⟨hk16, hsz16, hB16⟩ := one_block hw16
              have hsz15 := hb15.size
              have acc15 := hb15.trans (hB16.mono hsz15)
              have bx16 : LnkAt w16 ⟨w15.heap.size, 0, none⟩ ⟨x0, x1, x2, x3⟩ := lnk_of_block (p := ⟨x0, x1, x2, x3⟩) hk16
              have lt16 : w15.heap.size < w16.heap.size := by omega
              have HBX0 := Lib.hid (HACC14.out.trans (acc15.mono HACC14.out.size))
              have hil16 := hil w16
              have HBX16 := Lib.hid bx16
              clear hk16 hsz16 hB16 acc15 hb15 hhl bx16 hil k0 k1 k2 k3
              go_wp2_with fail
              rw [← hw16]
              clear hw16
              refine hil16.mono ?_
              rintro e w17 ⟨rfl, hb17⟩
              obtain ⟨l0, l1, l2, l3⟩ := lnk_head (HBX16.out.below hb17 lt16)
              simp only at l0 l1 l2 l3
              have HBX1 := Lib.hid (HBX0.out.trans (hb17.mono HBX0.out.size))
              clear hb17 hil16
              go_wp2_with fail
              refine (hls _).mono ?_
              rintro e w18 ⟨rfl, hb18⟩
              have HBX := Lib.hid (HBX1.out.trans (hb18.mono HBX1.out.size))
              clear hb18 hls l0 l1 l2 l3
              go_wp2_with fail
              refine (spec_DrawInStep A n c _ zs _ (HB.out.below HBX.out) HBX.out.size (by omega)).mono ?_
              rintro e w21 ⟨Ai, ni, ci, li, u, hni, -, rfl, hli, hb21⟩
              have HB21 := Lib.hid (HBX.out.trans (hb21.mono HBX.out.size))
              have hst := impl_InStep Ai ni ci _ li u w21 hli (Nat.le_refl _) (by omega)
              clear hb21
              cases hin : inStepB li u
              · rw [hin] at hst
                clear hin hli
                go_wp2_with fail
                refine hst.mono ?_
                rintro e w22 ⟨rfl, hb22⟩
                go_wp2
                go_ret
                exact ⟨rfl, HB21.out.trans (hb22.mono HB21.out.size)⟩
              · rw [hin] at hst
                by_cases h0 : ni = 0
                · subst h0
                  clear hin hli
                  go_wp2_with fail
                  refine hst.mono ?_
                  rintro e w22 ⟨rfl, hb22⟩
                  go_wp2
                  go_ret
                  exact ⟨rfl, HB21.out.trans (hb22.mono HB21.out.size)⟩
                · obtain ⟨ad, ⟨y0, y1, y2, y3⟩, rfl, hab, hp, hq⟩ := hli.at (k := 0) (by omega)
                  have ha0 : ad.add (0 * 4) = ad := by simp [Addr.add]
                  rw [ha0] at hab hq
                  have hz : lkS ⟨y0, y1, y2, y3⟩ u = 0 := by simpa using List.all_eq_true.1 hin _ (List.mem_of_getElem? hp)
                  have hls := fun w => impl_LinkState ⟨y0, y1, y2, y3⟩ u w
                  rw [hz] at hls
                  simp only [Lnk.val] at hls
                  have e0 : ((ni : Int) == 0) = false := by simp; omega
                  have j2 : (0 : Int) < (ni : Int) := by omega
                  clear hin hli hz hp
                  go_wp2_with fail
                  refine hst.mono ?_
                  rintro e w22 ⟨rfl, hb22⟩
                  obtain ⟨c0, c1, c2, c3⟩ := hq.below hb22 hab
                  simp only at c0 c1 c2 c3
                  have HB22 := Lib.hid (HB21.out.trans (hb22.mono HB21.out.size))
                  clear hq hb22 hst
                  go_wp2_with fail
                  refine (hls _).mono ?_
                  rintro e w23 ⟨rfl, hb23⟩
                  go_wp2
                  go_ret
                  exact ⟨rfl, HB22.out.trans (hb23.mono HB22.out.size)⟩
          · have v2 : ¬ m ≥ q2 := h2
            have HBX := HB11
            clear hlu hlt
            go_wp2_with fail
            refine (spec_DrawHearLink A n c _ zs _ (HB.out.below HBX.out) HBX.out.size (by omega)).mono ?_
            rintro e w13 ⟨⟨r0, r1, r2, r3⟩, sq, tt, oo, -, -, -, -, rfl, hb13⟩
            obtain ⟨w14, hw14⟩ : ∃ w14, w14 = w13.alloc (.cells #[.int .i64 r0, .int .i64 r1, .int .i64 r2, .int .i64 r3] 74) := ⟨_, rfl⟩
            obtain ⟨hk14, hsz14, hB14⟩ := one_block hw14
            have hsz13 := hb13.size
            have hszX := HBX.out.size
            have acc14 := HBX.out.trans ((hb13.trans (hB14.mono hsz13)).mono hszX)
            have br : LnkAt w14 ⟨w13.heap.size, 0, none⟩ ⟨r0, r1, r2, r3⟩ := lnk_of_block (p := ⟨r0, r1, r2, r3⟩) hk14
            have lt14 : w13.heap.size < w14.heap.size := by omega
            have hhl := impl_HearLink ⟨r0, r1, r2, r3⟩ sq tt oo w14
            obtain ⟨k0, k1, k2, k3⟩ := lnk_head br
            simp only at k0 k1 k2 k3
            have HBR := Lib.hid br
            have HACC14 := Lib.hid acc14
            clear hk14 hsz14 hB14 hb13 acc14 br HBX
            simp only [Lnk.val]
            cases hok : (hearL ⟨r0, r1, r2, r3⟩ sq tt oo).2
            · have hy := hearR_not hok
              rw [hok, hy] at hhl
              simp only [Lnk.val] at hhl
              have hnq := fun W => neq_lnk r0 r1 r2 r3 r0 r1 r2 r3 W
              simp only [ne_eq, not_true_eq_false, decide_false] at hnq
              clear hok hy
              go_wp2_with fail
              rw [← hw14]
              clear hw14
              go_wp2_with fail
              refine hhl.mono ?_
              rintro e w15 ⟨rfl, hb15⟩
              have hsz15 := hb15.size
              have lt16 : w13.heap.size < w15.heap.size := Nat.lt_of_lt_of_le lt14 hsz15
              obtain ⟨k0, k1, k2, k3⟩ := lnk_head (HBR.out.below hb15 lt14)
              simp only at k0 k1 k2 k3
              have HBX := Lib.hid ((HACC14.out.trans (hb15.mono HACC14.out.size)).alloc (HACC14.out.trans (hb15.mono HACC14.out.size)).size (.cells #[.int .i64 r0, .int .i64 r1, .int .i64 r2, .int .i64 r3] 74))
              clear hb15 hhl
              go_wp2_with fail
              refine (spec_DrawInStep A n c _ zs _ (HB.out.below HBX.out) HBX.out.size (by omega)).mono ?_
              rintro e w21 ⟨Ai, ni, ci, li, u, hni, -, rfl, hli, hb21⟩
              have HB21 := Lib.hid (HBX.out.trans (hb21.mono HBX.out.size))
              have hst := impl_InStep Ai ni ci _ li u w21 hli (Nat.le_refl _) (by omega)
              clear hb21
              cases hin : inStepB li u
              · rw [hin] at hst
                clear hin hli
                go_wp2_with fail
                refine hst.mono ?_
                rintro e w22 ⟨rfl, hb22⟩
                go_wp2
                go_ret
                exact ⟨rfl, HB21.out.trans (hb22.mono HB21.out.size)⟩
              · rw [hin] at hst
                by_cases h0 : ni = 0
                · subst h0
                  clear hin hli
                  go_wp2_with fail
                  refine hst.mono ?_
                  rintro e w22 ⟨rfl, hb22⟩
                  go_wp2
                  go_ret
                  exact ⟨rfl, HB21.out.trans (hb22.mono HB21.out.size)⟩
                · obtain ⟨ad, ⟨y0, y1, y2, y3⟩, rfl, hab, hp, hq⟩ := hli.at (k := 0) (by omega)
                  have ha0 : ad.add (0 * 4) = ad := by simp [Addr.add]
                  rw [ha0] at hab hq
                  have hz : lkS ⟨y0, y1, y2, y3⟩ u = 0 := by simpa using List.all_eq_true.1 hin _ (List.mem_of_getElem? hp)
                  have hls := fun w => impl_LinkState ⟨y0, y1, y2, y3⟩ u w
                  rw [hz] at hls
                  simp only [Lnk.val] at hls
                  have e0 : ((ni : Int) == 0) = false := by simp; omega
                  have j2 : (0 : Int) < (ni : Int) := by omega
                  clear hin hli hz hp
                  go_wp2_with fail
                  refine hst.mono ?_
                  rintro e w22 ⟨rfl, hb22⟩
                  obtain ⟨c0, c1, c2, c3⟩ := hq.below hb22 hab
                  simp only at c0 c1 c2 c3
                  have HB22 := Lib.hid (HB21.out.trans (hb22.mono HB21.out.size))
                  clear hq hb22 hst
                  go_wp2_with fail
                  refine (hls _).mono ?_
                  rintro e w23 ⟨rfl, hb23⟩
                  go_wp2
                  go_ret
                  exact ⟨rfl, HB22.out.trans (hb23.mono HB22.out.size)⟩
            · obtain ⟨hx1, hx2⟩ := hearR_ok hok
              rw [hok] at hhl
              generalize (hearL ⟨r0, r1, r2, r3⟩ sq tt oo).1 = y at *
              obtain ⟨x0, x1, x2, x3⟩ := y
              have hil := fun w => impl_IsLink ⟨x0, x1, x2, x3⟩ w
              have hls := fun w => impl_LinkState ⟨x0, x1, x2, x3⟩ tt w
              rw [hx1] at hil
              rw [hx2] at hls
              simp only [Lnk.val] at hhl hil hls
              clear hok hx1 hx2
              go_wp2_with fail
              rw [← hw14]
              clear hw14
              go_wp2_with fail
              refine hhl.mono ?_
              rintro e w15 ⟨rfl, hb15⟩
              obtain ⟨w16, hw16⟩ : ∃ w16, w16 = w15.alloc (.cells #[.int .i64 x0, .int .i64 x1, .int .i64 x2, .int .i64 x3] 74) := ⟨_, rfl⟩
              obtain ⟨hk16, hsz16, hB16⟩ := one_block hw16
              have hsz15 := hb15.size
              have acc15 := hb15.trans (hB16.mono hsz15)
              have bx16 : LnkAt w16 ⟨w15.heap.size, 0, none⟩ ⟨x0, x1, x2, x3⟩ := lnk_of_block (p := ⟨x0, x1, x2, x3⟩) hk16
              have lt16 : w15.heap.size < w16.heap.size := by omega
              have HBX0 := Lib.hid (HACC14.out.trans (acc15.mono HACC14.out.size))
              have hil16 := hil w16
              have HBX16 := Lib.hid bx16
              clear hk16 hsz16 hB16 acc15 hb15 hhl bx16 hil k0 k1 k2 k3
              go_wp2_with fail
              rw [← hw16]
              clear hw16
              refine hil16.mono ?_
              rintro e w17 ⟨rfl, hb17⟩
              obtain ⟨l0, l1, l2, l3⟩ := lnk_head (HBX16.out.below hb17 lt16)
              simp only at l0 l1 l2 l3
              have HBX1 := Lib.hid (HBX0.out.trans (hb17.mono HBX0.out.size))
              clear hb17 hil16
              go_wp2_with fail
              refine (hls _).mono ?_
              rintro e w18 ⟨rfl, hb18⟩
              have HBX := Lib.hid (HBX1.out.trans (hb18.mono HBX1.out.size))
              clear hb18 hls l0 l1 l2 l3
              go_wp2_with fail
              refine (spec_DrawInStep A n c _ zs _ (HB.out.below HBX.out) HBX.out.size (by omega)).mono ?_
              rintro e w21 ⟨Ai, ni, ci, li, u, hni, -, rfl, hli, hb21⟩
              have HB21 := Lib.hid (HBX.out.trans (hb21.mono HBX.out.size))
              have hst := impl_InStep Ai ni ci _ li u w21 hli (Nat.le_refl _) (by omega)
              clear hb21
              cases hin : inStepB li u
              · rw [hin] at hst
                clear hin hli
                go_wp2_with fail
                refine hst.mono ?_
                rintro e w22 ⟨rfl, hb22⟩
                go_wp2
                go_ret
                exact ⟨rfl, HB21.out.trans (hb22.mono HB21.out.size)⟩
              · rw [hin] at hst
                by_cases h0 : ni = 0
                · subst h0
                  clear hin hli
                  go_wp2_with fail
                  refine hst.mono ?_
                  rintro e w22 ⟨rfl, hb22⟩
                  go_wp2
                  go_ret
                  exact ⟨rfl, HB21.out.trans (hb22.mono HB21.out.size)⟩
                · obtain ⟨ad, ⟨y0, y1, y2, y3⟩, rfl, hab, hp, hq⟩ := hli.at (k := 0) (by omega)
                  have ha0 : ad.add (0 * 4) = ad := by simp [Addr.add]
                  rw [ha0] at hab hq
                  have hz : lkS ⟨y0, y1, y2, y3⟩ u = 0 := by simpa using List.all_eq_true.1 hin _ (List.mem_of_getElem? hp)
                  have hls := fun w => impl_LinkState ⟨y0, y1, y2, y3⟩ u w
                  rw [hz] at hls
                  simp only [Lnk.val] at hls
                  have e0 : ((ni : Int) == 0) = false := by simp; omega
                  have j2 : (0 : Int) < (ni : Int) := by omega
                  clear hin hli hz hp
                  go_wp2_with fail
                  refine hst.mono ?_
                  rintro e w22 ⟨rfl, hb22⟩
                  obtain ⟨c0, c1, c2, c3⟩ := hq.below hb22 hab
                  simp only at c0 c1 c2 c3
                  have HB22 := Lib.hid (HB21.out.trans (hb22.mono HB21.out.size))
                  clear hq hb22 hst
                  go_wp2_with fail
                  refine (hls _).mono ?_
                  rintro e w23 ⟨rfl, hb23⟩
                  go_wp2
                  go_ret
                  exact ⟨rfl, HB22.out.trans (hb23.mono HB22.out.size)⟩
        · have HBX := HB11
          clear hlu hlt
          go_wp2_with fail
          refine (spec_DrawHearLink A n c _ zs _ (HB.out.below HBX.out) HBX.out.size (by omega)).mono ?_
          rintro e w13 ⟨⟨r0, r1, r2, r3⟩, sq, tt, oo, -, -, -, -, rfl, hb13⟩
          obtain ⟨w14, hw14⟩ : ∃ w14, w14 = w13.alloc (.cells #[.int .i64 r0, .int .i64 r1, .int .i64 r2, .int .i64 r3] 74) := ⟨_, rfl⟩
          obtain ⟨hk14, hsz14, hB14⟩ := one_block hw14
          have hsz13 := hb13.size
          have hszX := HBX.out.size
          have acc14 := HBX.out.trans ((hb13.trans (hB14.mono hsz13)).mono hszX)
          have br : LnkAt w14 ⟨w13.heap.size, 0, none⟩ ⟨r0, r1, r2, r3⟩ := lnk_of_block (p := ⟨r0, r1, r2, r3⟩) hk14
          have lt14 : w13.heap.size < w14.heap.size := by omega
          have hhl := impl_HearLink ⟨r0, r1, r2, r3⟩ sq tt oo w14
          obtain ⟨k0, k1, k2, k3⟩ := lnk_head br
          simp only at k0 k1 k2 k3
          have HBR := Lib.hid br
          have HACC14 := Lib.hid acc14
          clear hk14 hsz14 hB14 hb13 acc14 br HBX
          simp only [Lnk.val]
          cases hok : (hearL ⟨r0, r1, r2, r3⟩ sq tt oo).2
          · have hy := hearR_not hok
            rw [hok, hy] at hhl
            simp only [Lnk.val] at hhl
            have hnq := fun W => neq_lnk r0 r1 r2 r3 r0 r1 r2 r3 W
            simp only [ne_eq, not_true_eq_false, decide_false] at hnq
            clear hok hy
            go_wp2_with fail
            rw [← hw14]
            clear hw14
            go_wp2_with fail
            refine hhl.mono ?_
            rintro e w15 ⟨rfl, hb15⟩
            have hsz15 := hb15.size
            have lt16 : w13.heap.size < w15.heap.size := Nat.lt_of_lt_of_le lt14 hsz15
            obtain ⟨k0, k1, k2, k3⟩ := lnk_head (HBR.out.below hb15 lt14)
            simp only at k0 k1 k2 k3
            have HBX := Lib.hid ((HACC14.out.trans (hb15.mono HACC14.out.size)).alloc (HACC14.out.trans (hb15.mono HACC14.out.size)).size (.cells #[.int .i64 r0, .int .i64 r1, .int .i64 r2, .int .i64 r3] 74))
            clear hb15 hhl
            go_wp2_with fail
            refine (spec_DrawInStep A n c _ zs _ (HB.out.below HBX.out) HBX.out.size (by omega)).mono ?_
            rintro e w21 ⟨Ai, ni, ci, li, u, hni, -, rfl, hli, hb21⟩
            have HB21 := Lib.hid (HBX.out.trans (hb21.mono HBX.out.size))
            have hst := impl_InStep Ai ni ci _ li u w21 hli (Nat.le_refl _) (by omega)
            clear hb21
            cases hin : inStepB li u
            · rw [hin] at hst
              clear hin hli
              go_wp2_with fail
              refine hst.mono ?_
              rintro e w22 ⟨rfl, hb22⟩
              go_wp2
              go_ret
              exact ⟨rfl, HB21.out.trans (hb22.mono HB21.out.size)⟩
            · rw [hin] at hst
              by_cases h0 : ni = 0
              · subst h0
                clear hin hli
                go_wp2_with fail
                refine hst.mono ?_
                rintro e w22 ⟨rfl, hb22⟩
                go_wp2
                go_ret
                exact ⟨rfl, HB21.out.trans (hb22.mono HB21.out.size)⟩
              · obtain ⟨ad, ⟨y0, y1, y2, y3⟩, rfl, hab, hp, hq⟩ := hli.at (k := 0) (by omega)
                have ha0 : ad.add (0 * 4) = ad := by simp [Addr.add]
                rw [ha0] at hab hq
                have hz : lkS ⟨y0, y1, y2, y3⟩ u = 0 := by simpa using List.all_eq_true.1 hin _ (List.mem_of_getElem? hp)
                have hls := fun w => impl_LinkState ⟨y0, y1, y2, y3⟩ u w
                rw [hz] at hls
                simp only [Lnk.val] at hls
                have e0 : ((ni : Int) == 0) = false := by simp; omega
                have j2 : (0 : Int) < (ni : Int) := by omega
                clear hin hli hz hp
                go_wp2_with fail
                refine hst.mono ?_
                rintro e w22 ⟨rfl, hb22⟩
                obtain ⟨c0, c1, c2, c3⟩ := hq.below hb22 hab
                simp only at c0 c1 c2 c3
                have HB22 := Lib.hid (HB21.out.trans (hb22.mono HB21.out.size))
                clear hq hb22 hst
                go_wp2_with fail
                refine (hls _).mono ?_
                rintro e w23 ⟨rfl, hb23⟩
                go_wp2
                go_ret
                exact ⟨rfl, HB22.out.trans (hb23.mono HB22.out.size)⟩
          · obtain ⟨hx1, hx2⟩ := hearR_ok hok
            rw [hok] at hhl
            generalize (hearL ⟨r0, r1, r2, r3⟩ sq tt oo).1 = y at *
            obtain ⟨x0, x1, x2, x3⟩ := y
            have hil := fun w => impl_IsLink ⟨x0, x1, x2, x3⟩ w
            have hls := fun w => impl_LinkState ⟨x0, x1, x2, x3⟩ tt w
            rw [hx1] at hil
            rw [hx2] at hls
            simp only [Lnk.val] at hhl hil hls
            clear hok hx1 hx2
            go_wp2_with fail
            rw [← hw14]
            clear hw14
            go_wp2_with fail
            refine hhl.mono ?_
            rintro e w15 ⟨rfl, hb15⟩
            obtain ⟨w16, hw16⟩ : ∃ w16, w16 = w15.alloc (.cells #[.int .i64 x0, .int .i64 x1, .int .i64 x2, .int .i64 x3] 74) := ⟨_, rfl⟩
            obtain ⟨hk16, hsz16, hB16⟩ := one_block hw16
            have hsz15 := hb15.size
            have acc15 := hb15.trans (hB16.mono hsz15)
            have bx16 : LnkAt w16 ⟨w15.heap.size, 0, none⟩ ⟨x0, x1, x2, x3⟩ := lnk_of_block (p := ⟨x0, x1, x2, x3⟩) hk16
            have lt16 : w15.heap.size < w16.heap.size := by omega
            have HBX0 := Lib.hid (HACC14.out.trans (acc15.mono HACC14.out.size))
            have hil16 := hil w16
            have HBX16 := Lib.hid bx16
            clear hk16 hsz16 hB16 acc15 hb15 hhl bx16 hil k0 k1 k2 k3
            go_wp2_with fail
            rw [← hw16]
            clear hw16
            refine hil16.mono ?_
            rintro e w17 ⟨rfl, hb17⟩
            obtain ⟨l0, l1, l2, l3⟩ := lnk_head (HBX16.out.below hb17 lt16)
            simp only at l0 l1 l2 l3
            have HBX1 := Lib.hid (HBX0.out.trans (hb17.mono HBX0.out.size))
            clear hb17 hil16
            go_wp2_with fail
            refine (hls _).mono ?_
            rintro e w18 ⟨rfl, hb18⟩
            have HBX := Lib.hid (HBX1.out.trans (hb18.mono HBX1.out.size))
            clear hb18 hls l0 l1 l2 l3
            go_wp2_with fail
            refine (spec_DrawInStep A n c _ zs _ (HB.out.below HBX.out) HBX.out.size (by omega)).mono ?_
            rintro e w21 ⟨Ai, ni, ci, li, u, hni, -, rfl, hli, hb21⟩
            have HB21 := Lib.hid (HBX.out.trans (hb21.mono HBX.out.size))
            have hst := impl_InStep Ai ni ci _ li u w21 hli (Nat.le_refl _) (by omega)
            clear hb21
            cases hin : inStepB li u
            · rw [hin] at hst
              clear hin hli
              go_wp2_with fail
              refine hst.mono ?_
              rintro e w22 ⟨rfl, hb22⟩
              go_wp2
              go_ret
              exact ⟨rfl, HB21.out.trans (hb22.mono HB21.out.size)⟩
            · rw [hin] at hst
              by_cases h0 : ni = 0
              · subst h0
                clear hin hli
                go_wp2_with fail
                refine hst.mono ?_
                rintro e w22 ⟨rfl, hb22⟩
                go_wp2
                go_ret
                exact ⟨rfl, HB21.out.trans (hb22.mono HB21.out.size)⟩
              · obtain ⟨ad, ⟨y0, y1, y2, y3⟩, rfl, hab, hp, hq⟩ := hli.at (k := 0) (by omega)
                have ha0 : ad.add (0 * 4) = ad := by simp [Addr.add]
                rw [ha0] at hab hq
                have hz : lkS ⟨y0, y1, y2, y3⟩ u = 0 := by simpa using List.all_eq_true.1 hin _ (List.mem_of_getElem? hp)
                have hls := fun w => impl_LinkState ⟨y0, y1, y2, y3⟩ u w
                rw [hz] at hls
                simp only [Lnk.val] at hls
                have e0 : ((ni : Int) == 0) = false := by simp; omega
                have j2 : (0 : Int) < (ni : Int) := by omega
                clear hin hli hz hp
                go_wp2_with fail
                refine hst.mono ?_
                rintro e w22 ⟨rfl, hb22⟩
                obtain ⟨c0, c1, c2, c3⟩ := hq.below hb22 hab
                simp only at c0 c1 c2 c3
                have HB22 := Lib.hid (HB21.out.trans (hb22.mono HB21.out.size))
                clear hq hb22 hst
                go_wp2_with fail
                refine (hls _).mono ?_
                rintro e w23 ⟨rfl, hb23⟩
                go_wp2
                go_ret
                exact ⟨rfl, HB22.out.trans (hb23.mono HB22.out.size)⟩
end Go.Proofs.Ytdlcjmdkafebpaa
