/- Contracts of the readers of lists: model and program. -/
import Derived.Test.YtekpopndjcdgiaaGet4
namespace Go.Proofs.Ytekpopndjcdgiaa
open Go.RowKit
set_option linter.unusedVariables false

theorem tup_eq {a x : List Int} {b y : Int} {c z : Bool} (h : (a, b, c) = (x, y, z)) : x = a ∧ y = b ∧ z = c := by injection h with h1 h; injection h with h2 h3; exact ⟨h1.symm, h2.symm, h3.symm⟩
set_option maxHeartbeats 1000000 in
theorem spec_DecodeInts (A : Option Addr) (n c : Nat) (zs : List Int) (a cnt : Int) (w : World) (h : Sl .u8 w A n c zs) (r0 : List Int) (r1 : Int) (r2 : Bool) (hr : rdInts zs a cnt = (r0, r1, r2)) :
    Calls Try.prog 38 #[.slice A n c, .int .i64 a, .int .i64 cnt] w fun e w' => ∃ v, e = .returned (.tuple #[v, .int .i64 r1, .bool r2]) ∧ Own .i64 3 w' w.heap.size v r0 ∧ Below w.heap.size w w' ∧ r0.length ≤ 4398046511104 := by
  have hl := h.len
  have hn := h.small
  by_cases hin : (0 ≤ cnt ∧ cnt ≤ 100) ∧ (0 ≤ a ∧ a ≤ zs.length)
  · obtain ⟨⟨hc1, hc2⟩, ha1, ha2⟩ := hin
    obtain ⟨N, rfl⟩ := Int.eq_ofNat_of_zero_le hc1
    obtain ⟨a0, rfl⟩ := Int.eq_ofNat_of_zero_le ha1
    have H1 : Hid (inB (N : Int) 0 100 = true) := Lib.hid (by simp [inB]; omega)
    have H2 : Hid (inB (a0 : Int) 0 (n : Int) = true) := Lib.hid (by simp [inB]; omega)
    have hnone : rdNums zs N a0 = none → r0 = [] ∧ r1 = 0 ∧ r2 = false := fun hh => by rw [rdInts_none (by omega) (by omega) hh] at hr; exact tup_eq hr
    have hsome : ∀ l e, rdNums zs N a0 = some (l, e) → r0 = l ∧ r1 = (e : Int) ∧ r2 = true := fun l e hh => by rw [rdInts_some (by omega) (by omega) hh] at hr; exact tup_eq hr
    have HNO := Lib.hid hnone
    have HSO := Lib.hid hsome
    have hN : N ≤ 100 := by omega
    clear hr hnone hsome hc1 hc2 ha1 ha2
    go_enter Try.func38, Try.ntmps38
    go_wp2_with (go_at_call 57; refine (spec_l1In _ _ _ _).mono ?_; rintro e w' ⟨rfl, rfl⟩; first | rw [H1.out] | rw [H2.out])
    go_loopw [9, 10, 1] (fun v i x wr => ∃ (k : Nat) (l : List Int) (e : Nat), i = .int .i64 k ∧ x = .int .i64 e ∧ NumsAt zs N a0 k l e ∧ Own .i64 3 wr w.heap.size v l ∧ Below w.heap.size w wr) (fun _ i _ _ => N - (intOf i).toNat)
    case atStart => exact ⟨0, [], a0, rfl, rfl, NumsAt.start _ _ _, own_bare _ _ w, (Below.refl _ _).alloc (Nat.le_refl _) _⟩
    case round =>
      obtain ⟨k, l, e, rfl, rfl, hat, hown, hbl⟩ := hrel
      have hkN := hat.2.1
      have hll := hat.1
      have hsz := hbl.size
      by_cases hlt : k < N
      · cases hv : vget zs (e : Int) with
        | none =>
          have HR := Lib.hid (HNO.out (hat.no_more hlt hv))
          have HV := Lib.hid (congrArg getV hv)
          clear hat hv
          go_wp2_with fail
          refine (spec_ReadUvarint A n c _ zs e _ (h.ints.keep fun p hp => hbl.cell hp) h.u8 h.small).mono ?_
          rintro e1 w1 ⟨rfl, rfl⟩
          rw [HV.out]
          simp only [getV]
          go_wp2
          go_ret3
          obtain ⟨h1, h2, h3⟩ := HR.out
          rw [h1, h2, h3]
          exact ⟨_, rfl, (own_bare _ _ _).mono hsz, hbl.alloc hsz _, by simp⟩
        | some mq =>
          obtain ⟨m, q⟩ := mq
          have HAT := Lib.hid (hat.more hlt hv)
          have HV := Lib.hid (congrArg getV hv)
          clear hat hv
          go_wp2_with fail
          refine (spec_ReadUvarint A n c _ zs e _ (h.ints.keep fun p hp => hbl.cell hp) h.u8 h.small).mono ?_
          rintro e1 w1 ⟨rfl, rfl⟩
          rw [HV.out]
          simp only [getV]
          go_wp2_with (at_builtin; refine wpList_app1 rfl _ _ 35 rfl .i64 3 8 Try.underlying35 info_i64 w.heap.size _ l rfl hown (by decide) (by omega) _ _ _ wr.heap.size hsz rfl (by simp) ?_; intro v1 w1 hown1 hgrow1 hat1)
          have hb1 := hown.push (Nat.le_refl _) (hbl.alloc hsz _) (by simp; omega) hgrow1
          clear hgrow1 hat1 hown hbl
          go_roundw
          case rel => exact ⟨k + 1, l ++ [(m : Int)], q, by go_num, rfl, HAT.out, hown1, hb1⟩
          case measure => simp [intOf]; omega
      · obtain rfl : k = N := by omega
        have HR := Lib.hid (HSO.out l e hat.done)
        clear hat
        go_wp2
        go_ret3
        obtain ⟨h1, h2, h3⟩ := HR.out
        rw [h1, h2, h3]
        exact ⟨_, rfl, hown, hbl, by omega⟩
  · rw [rdInts_out hin] at hr
    obtain ⟨rfl, rfl, rfl⟩ := tup_eq hr
    by_cases hc : 0 ≤ cnt ∧ cnt ≤ 100
    · have H1 : Hid (inB cnt 0 100 = true) := Lib.hid (by simp [inB]; omega)
      have H2 : Hid (inB a 0 (n : Int) = false) := Lib.hid (by simp [inB]; omega)
      clear hin
      go_enter Try.func38, Try.ntmps38
      go_wp2_with (go_at_call 57; refine (spec_l1In _ _ _ _).mono ?_; rintro e w' ⟨rfl, rfl⟩; first | rw [H1.out] | rw [H2.out])
      go_ret3
      exact ⟨_, rfl, own_bare _ _ _, (Below.refl _ _).alloc (Nat.le_refl _) _, by simp⟩
    · have H1 : Hid (inB cnt 0 100 = false) := Lib.hid (by simp [inB]; omega)
      clear hin
      go_enter Try.func38, Try.ntmps38
      go_wp2_with (go_at_call 57; refine (spec_l1In _ _ _ _).mono ?_; rintro e w' ⟨rfl, rfl⟩; rw [H1.out])
      go_ret3
      exact ⟨_, rfl, own_bare _ _ _, (Below.refl _ _).alloc (Nat.le_refl _) _, by simp⟩
theorem set_fill {l : List Int} {k N : Nat} (x : Int) (hl : l.length = k) (hk : k < N) : (l ++ List.replicate (N - k) 0).set k x = (l ++ [x]) ++ List.replicate (N - (k + 1)) 0 := by
  rw [List.set_append_right k x (by omega), hl, Nat.sub_self, show N - k = (N - (k + 1)) + 1 by omega, List.replicate_succ, List.set_cons_zero, List.append_assoc]
  rfl
set_option maxHeartbeats 1000000 in
theorem cursor_readInts (g : Nat) (A : Option Addr) (n c B a0 N : Nat) (zs : List Int) (w : World) (h : IntsAt .u8 w B A n zs) (hz : ∀ z ∈ zs, 0 ≤ z ∧ z ≤ 255) (hn : n ≤ 1099511627776) (hB : B ≤ g) (hp : a0 ≤ n) (hc : CurAt w g A n c a0) (hN : N ≤ 100) :
    Calls Try.prog 56 #[.pointer (some ⟨g, 0, none⟩), .int .i64 (N : Int)] w fun e w' => w.grownBy w' (some g) ∧
      ((rdNums zs N a0 = none ∧ e = .returned (.tuple #[.slice none 0 0, .bool false])) ∨
       ∃ v l q, rdNums zs N a0 = some (l, q) ∧ e = .returned (.tuple #[v, .bool true]) ∧ Own .i64 3 w' w.heap.size v l ∧ CurAt w' g A n c q) := by
  have hl := h.1
  have hgl := lt_of_block hc
  go_enter Try.func56, Try.ntmps56
  go_wp2_with ((with_reducible show wpList _ _ _ _ _ _); refine wpList_mk rfl _ _ _ rfl .i64 3 _ Try.underlying35 info_i64 (by decide) (N : Int) (N : Int) N rfl rfl rfl rfl (by omega) ?_; intro w1 hown0 hgrow0)
  have hc0 : CurAt w1 g A n c a0 := (hgrow0.block g hgl (by simp)).trans hc
  have hg0 : w.grownBy w1 (some g) := ⟨hgrow0.os, hgrow0.tape, hgrow0.output, hgrow0.size, fun i hi _ => hgrow0.block i hi (by simp)⟩
  clear hc hgrow0
  go_loopw [14] (fun i wr => ∃ (k : Nat) (l : List Int) (e : Nat), i = .int .i64 k ∧ e ≤ n ∧ NumsAt zs N a0 k l e ∧ Own .i64 3 wr w.heap.size (.slice (some ⟨w.heap.size, 0, none⟩) N N) (l ++ List.replicate (N - k) 0) ∧ CurAt wr g A n c e ∧ w.grownBy wr (some g)) (fun i _ => N - (intOf i).toNat)
  case atStart => exact ⟨0, [], a0, rfl, hp, NumsAt.start _ _ _, hown0, hc0, hg0⟩
  case round =>
    clear hc0 hg0 hown0
    obtain ⟨k, l, e, rfl, hen, hat, hown, hcu, hbl⟩ := hrel
    have hkN := hat.2.1
    have hll := hat.1
    have hsz := hbl.size
    have hge := vget_nat zs e
    by_cases hlt : k < N
    · have hkeep : IntsAt .u8 wr B A n zs := h.keep fun p hp => World.cell?_of_block (hbl.block p.block (by omega) (by intro e; injection e with e; omega))
      cases hv : vrd zs 6 e 0 with
      | none =>
        have HR := Lib.hid (hat.no_more hlt (hge.trans hv))
        have HV := Lib.hid hv
        clear hat hv hge
        go_wp2_with fail
        refine (cursor_readUvarint g A n c B e zs _ hkeep hz hn hB hen hcu).mono ?_
        rintro e1 w2 ⟨rfl, hg2, -⟩
        rw [HV.out]
        simp only [curV]
        have hg3 := only_trans hbl hg2
        clear hbl hg2 hcu hown
        go_wp2
        go_ret2
        exact ⟨hg3, .inl ⟨HR.out, rfl⟩⟩
      | some mq =>
        obtain ⟨m, q⟩ := mq
        have hq := (vrd_facts zs 6 e 0 _ hv).2.2
        simp only at hq
        have HAT := Lib.hid (hat.more hlt (hge.trans hv))
        have HV := Lib.hid hv
        clear hat hv hge
        go_wp2_with fail
        refine (cursor_readUvarint g A n c B e zs _ hkeep hz hn hB hen hcu).mono ?_
        rintro e1 w2 ⟨rfl, hg2, hc2⟩
        have hcu2 := hc2 m q HV.out
        rw [HV.out]
        simp only [curV]
        have hg3 := only_trans hbl hg2
        have hown2 := hown.grown hg2 (fun g' e' => by simp [Value.ownBlock] at e'; intro e; injection e with e; omega)
        have hcell := hown2.cell k (by simp; omega)
        have hf := hown2.free k
        have hst := hown2.stored k (m : Int)
        rw [set_fill (m : Int) hll hlt] at hst
        have HS := Lib.hid hst
        have HC := Lib.hid hcu2
        clear hbl hg2 hcu hown hc2 hcu2 hown2 hst
        generalize (l ++ List.replicate (N - k) 0).getD k 0 = z at *
        go_wp2
        go_roundw
        case rel =>
          refine ⟨k + 1, l ++ [(m : Int)], q, by go_num, by omega, HAT.out, HS.out, ?_, ?_⟩
          · exact (Below.heap_setCell w2 _ _ g (by show g ≠ w.heap.size; omega)).trans HC.out
          · exact ⟨hg3.os, hg3.tape, hg3.output, by simpa [World.setCell] using hg3.size, fun i hi hne => (Below.heap_setCell w2 _ _ i (by show i ≠ w.heap.size; omega)).trans (hg3.block i hi hne)⟩
        case measure => simp [intOf]; omega
    · obtain rfl : k = N := by omega
      rw [Nat.sub_self, List.replicate_zero, List.append_nil] at hown
      have HD := Lib.hid hat.done
      have HO := Lib.hid hown
      have HC := Lib.hid hcu
      have HB := Lib.hid hbl
      clear hat hge hown hcu hbl
      go_wp2
      go_ret2
      exact ⟨HB.out, .inr ⟨_, l, e, HD.out, rfl, HO.out, HC.out⟩⟩
set_option maxHeartbeats 1000000 in
theorem impl_DecodeInts (A : Option Addr) (n c : Nat) (zs : List Int) (a cnt : Int) (w : World) (h : Sl .u8 w A n c zs) (r0 : List Int) (r1 : Int) (r2 : Bool) (hr : rdInts zs a cnt = (r0, r1, r2)) :
    Calls Try.prog 25 #[.slice A n c, .int .i64 a, .int .i64 cnt] w fun e w' => ∃ v, e = .returned (.tuple #[v, .int .i64 r1, .bool r2]) ∧ Own .i64 3 w' w.heap.size v r0 ∧ Below w.heap.size w w' ∧ r0.length ≤ 4398046511104 := by
  have hl := h.len
  have hn := h.small
  by_cases ha : 0 ≤ a ∧ a ≤ zs.length
  · obtain ⟨ha1, ha2⟩ := ha
    obtain ⟨a0, rfl⟩ := Int.eq_ofNat_of_zero_le ha1
    have hp : a0 ≤ n := by omega
    by_cases hc : 0 ≤ cnt ∧ cnt ≤ 100
    · obtain ⟨N, rfl⟩ := Int.eq_ofNat_of_zero_le hc.1
      have H1 : Hid (inB (N : Int) 0 100 = true) := Lib.hid (by simp [inB]; omega)
      have hN : N ≤ 100 := by omega
      have hnone : rdNums zs N a0 = none → r0 = [] ∧ r1 = 0 ∧ r2 = false := fun hh => by rw [rdInts_none (by omega) (by omega) hh] at hr; exact tup_eq hr
      have hsome : ∀ l e, rdNums zs N a0 = some (l, e) → r0 = l ∧ r1 = (e : Int) ∧ r2 = true := fun l e hh => by rw [rdInts_some (by omega) (by omega) hh] at hr; exact tup_eq hr
      have HNO := Lib.hid hnone
      have HSO := Lib.hid hsome
      clear hr hnone hsome hc ha1 ha2
      go_enter Try.func25, Try.ntmps25
      go_wp2_with fail
      refine (impl_cursorAt_yes A n c a0 _ hp).mono ?_
      rintro e w1 ⟨rfl, hb1⟩
      have hs1 := hb1.size
      go_wp2_with (go_at_call 55; refine (impl_InRange _ _ _ _).mono ?_; rintro e w' ⟨rfl, rfl⟩; rw [H1.out])
      refine (cursor_readInts w1.heap.size A n c w.heap.size a0 N zs _ (h.ints.keep fun q hq => ((hb1.alloc hs1 _).cell hq)) h.u8 hn hs1 hp (heap_alloc_new w1 _) hN).mono ?_
      rintro e w2 ⟨hg2, ⟨hno, rfl⟩ | ⟨v, l, q, hso, rfl, hown, hcu⟩⟩
      · have hb2 := ((hb1.alloc hs1 _).trans (below_of_grown hg2 hs1 (by simp; omega)))
        have hs2 := hb2.size
        obtain ⟨h1, h2, h3⟩ := HNO.out hno
        have E1 := Lib.hid h1
        have E2 := Lib.hid h2
        have E3 := Lib.hid h3
        clear hg2 hno h1 h2 h3
        go_wp2
        go_ret3
        rw [E1.out, E2.out, E3.out]
        exact ⟨_, rfl, (own_bare _ _ _).mono hs2, hb2.alloc hs2 _, by simp⟩
      · have hb2 := ((hb1.alloc hs1 _).trans (below_of_grown hg2 hs1 (by simp; omega)))
        have hg : w2.heap[w1.heap.size]? = _ := hcu
        have c1 : w2.cell? ⟨w1.heap.size, 1, none⟩ = some (.int .i64 (q : Int)) := by simp [World.cell?, hg]
        have hown2 := hown.mono (lo' := w.heap.size) (by simp; omega)
        obtain ⟨h1, h2, h3⟩ := HSO.out l q hso
        have hlen : l.length ≤ 4398046511104 := by
          obtain ⟨A3, c3, e3⟩ := hown.sliced
          have h4 := rdNums_len zs N a0 _ hso
          simp only at h4
          omega
        have E1 := Lib.hid h1
        have E2 := Lib.hid h2
        have E3 := Lib.hid h3
        have HL := Lib.hid hlen
        clear hg2 hso hcu hg hown h1 h2 h3 hlen
        go_wp2
        go_quiet (fail)
        go_wp2
        go_ret3
        rw [E1.out, E2.out, E3.out]
        exact ⟨v, rfl, hown2, belowN hb2 _, HL.out⟩
    · rw [rdInts_out (by omega)] at hr
      obtain ⟨rfl, rfl, rfl⟩ := tup_eq hr
      have H1 : Hid (inB cnt 0 100 = false) := Lib.hid (by simp [inB]; omega)
      clear hc ha1 ha2
      go_enter Try.func25, Try.ntmps25
      go_wp2_with fail
      refine (impl_cursorAt_yes A n c a0 _ hp).mono ?_
      rintro e w1 ⟨rfl, hb1⟩
      have hs1 := hb1.size
      go_wp2_with (go_at_call 55; refine (impl_InRange _ _ _ _).mono ?_; rintro e w' ⟨rfl, rfl⟩; rw [H1.out])
      go_ret3
      refine ⟨_, rfl, ?_, (hb1.alloc hs1 _).alloc (by simp; omega) _, by simp⟩
      have hob := own_bare .i64 3 (w1.alloc (.cells #[.slice A n c, .int .i64 a0] 55))
      rw [show (w1.alloc (.cells #[.slice A n c, .int .i64 a0] 55)).heap.size = w1.heap.size + 1 by simp] at hob
      exact hob.mono (by omega)
  · rw [rdInts_out (by omega)] at hr
    obtain ⟨rfl, rfl, rfl⟩ := tup_eq hr
    have hf : inB a 0 n = false := by simp [inB]; omega
    clear ha
    go_enter Try.func25, Try.ntmps25
    go_wp2_with fail
    refine (impl_cursorAt_no A n c a _ hf).mono ?_
    rintro e w1 ⟨rfl, hb1⟩
    have hs1 := hb1.size
    clear hf
    go_wp2
    go_ret3
    refine ⟨_, rfl, ?_, (hb1.alloc hs1 _).alloc (by simp; omega) _, by simp⟩
    have hob := own_bare .i64 3 (w1.alloc (.cells #[.slice none 0 0, .int .i64 0] 55))
    rw [show (w1.alloc (.cells #[.slice none 0 0, .int .i64 0] 55)).heap.size = w1.heap.size + 1 by simp] at hob
    exact hob.mono (by omega)
end Go.Proofs.Ytekpopndjcdgiaa
