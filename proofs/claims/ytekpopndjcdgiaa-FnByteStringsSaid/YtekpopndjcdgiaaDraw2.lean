/- The draws of chapter 2. -/
import Derived.Test.YtekpopndjcdgiaaDraw
import Derived.Test.YtekpopndjcdgiaaPut
namespace Go.Proofs.Ytekpopndjcdgiaa
open Go.RowKit
set_option linter.unusedVariables false

theorem only_push {k : IntKind} {E : TypeId} {a w0 w w' : World} {g lo : Nat} {v : Value} {zs : List Int} (h : Own k E w0 lo v zs) (ha : a.grownBy w (some g)) (hl : a.heap.size ≤ lo) (hg : w.grownBy w' v.ownBlock) : a.grownBy w' (some g) :=
  ⟨hg.os.trans ha.os, hg.tape.trans ha.tape, hg.output.trans ha.output, Nat.le_trans ha.size hg.size, fun i hi hne => (hg.block i (Nat.lt_of_lt_of_le hi ha.size) (fun e => by have := (h.block i e.symm).1; omega)).trans (ha.block i hi hne)⟩
theorem Own.nilcap'' {k : IntKind} {E : TypeId} {w : World} {lo : Nat} {A : Option Addr} {n c : Nat} {zs : List Int} (h : Own k E w lo (.slice A n c) zs) : A = none → n = 0 ∧ c = 0 := by
  rintro rfl
  rcases h.shape with ⟨e, rfl⟩ | ⟨g, cap, e, _⟩
  · injection e with e1 e2 e3; exact ⟨e2, e3⟩
  · injection e with e1; cases e1
theorem only_bare {a w : World} {g : Nat} (ha : a.grownBy w (some g)) (o : Obj) : a.grownBy (w.alloc o) (some g) := only_alloc ha o
theorem spec_l1Bytes (g n : Nat) (w : World) (h : Curs w g) (hn : n ≤ 1000000) :
    Calls Try.prog 45 #[.pointer (some ⟨g, 0, none⟩), .int .i64 (n : Int)] w fun e w' => ∃ v l, e = .returned v ∧ Own .u8 5 w' w.heap.size v l ∧ l.length = n ∧ (∀ z ∈ l, 0 ≤ z ∧ z ≤ 255) ∧ Curs w' g ∧ w.grownBy w' (some g) := by
  have hgl := h.lt
  go_enter Try.func45, Try.ntmps45
  go_wp2
  go_loopw [5, 6] (fun v i wr => ∃ l : List Int, i = .int .i64 (l.length : Int) ∧ l.length ≤ n ∧ (∀ z ∈ l, 0 ≤ z ∧ z ≤ 255) ∧ Own .u8 5 wr w.heap.size v l ∧ Curs wr g ∧ w.grownBy wr (some g)) (fun _ i _ => n - (intOf i).toNat)
  case atStart => exact ⟨[], rfl, Nat.zero_le _, by simp, own_bare _ _ w, h.alloc _, only_bare (World.grownBy.refl _ _) _⟩
  case round =>
    obtain ⟨l, rfl, hl, hby, hown, hcu, hbl⟩ := hrel
    have hsz := hbl.size
    by_cases hlt : l.length < n
    · go_wp2_with fail
      refine (spec_l1Byte' g _ hcu).mono ?_
      rintro e w1 ⟨x, hx, rfl, hc1, hg1⟩
      have hown1 := hown.grown hg1 (fun g' e' => by have := (hown.block g' e').1; intro e; injection e with e; omega)
      have hbl1 := only_trans hbl hg1
      have hs1 := hbl1.size
      have HBY := Lib.hid hby
      clear hown hcu hbl hg1 hby
      go_wp2_with (at_builtin; refine wpList_app1 rfl _ _ 22 rfl .u8 5 1 Try.underlying22 info_u8 w.heap.size _ l rfl hown1 (by decide) (by omega) _ _ _ w1.heap.size hs1 rfl (by simp) ?_; intro v2 w2 hown2 hgrow2 hat2)
      have hbl2 := only_push hown1 (only_bare hbl1 _) (Nat.le_refl _) hgrow2
      have hc2 := (hc1.alloc (.cells #[.int .u8 (x : Int)] 5)).below (Below.grown (Below.refl (g + 1) _) hgrow2 (by simp <;> omega) (fun k hk => by have := (hown1.block k hk).1; omega))
      clear hgrow2 hat2 hown1 hbl1
      go_roundw
      case rel => exact ⟨l ++ [(x : Int)], by simp, by rw [List.length_append]; exact hlt, by intro z hz; rcases List.mem_append.1 hz with hz | hz; exact HBY.out z hz; rw [List.mem_singleton] at hz; omega, hown2, hc2, hbl2⟩
      case measure => simp [intOf]; omega
    · go_wp2
      go_ret
      exact ⟨_, l, rfl, hown, by omega, hby, hcu, hbl⟩
theorem spec_DrawAppendUvarint (A : Option Addr) (n c B : Nat) (zs : List Int) (w : World) (hb : Bytes w B A n zs) (hB : B ≤ w.heap.size) (hn : n ≤ 1048576) :
    Calls Try.prog 14 #[.slice A n c] w fun e w' => ∃ v l N, e = .returned (.tuple #[v, .int .i64 N]) ∧ Own .u8 5 w' w.heap.size v l ∧ l.length ≤ 3 ∧ (∀ z ∈ l, 0 ≤ z ∧ z ≤ 255) ∧ (-9223372036854775808 ≤ N ∧ N ≤ 9223372036854775807) ∧ Below w.heap.size w w' := by
  go_enter Try.func14, Try.ntmps14
  go_wp2_with fail
  refine (spec_l1New A n c B zs _ hb hB hn).mono ?_
  rintro e w1 ⟨rfl, hc1, hb1⟩
  have hs1 := hb1.size
  go_wp2_with fail
  refine (spec_l1Below _ 3 _ hc1 (by omega)).mono ?_
  rintro e w2 ⟨x, hx, rfl, hc2, hg2⟩
  go_wp2_with fail
  refine (spec_l1Bytes _ x _ hc2 (by omega)).mono ?_
  rintro e w3 ⟨v, l, rfl, hown, hl, hby, hc3, hg3⟩
  have hg23 := only_trans hg2 hg3
  have hs23 := hg23.size
  have HBY := Lib.hid hby
  clear hby
  go_wp2_with fail
  refine (spec_l1One _ _ hc3).mono ?_
  rintro e w4 ⟨N, hN, rfl, hc4, hg4⟩
  have hown4 := hown.grown hg4 (fun g' e' => by have := (hown.block g' e').1; have := hg2.size; have := hc1.lt; intro e; injection e with e; omega)
  have hs2 := hg2.size
  go_wp2
  go_ret2
  exact ⟨v, l, N, rfl, hown4.mono (by omega), by omega, HBY.out, hN, hb1.trans (below_of_only (only_trans hg23 hg4) (Nat.le_refl _) hs1)⟩
theorem spec_DrawAppendBytes (A : Option Addr) (n c B : Nat) (zs : List Int) (w : World) (hb : Bytes w B A n zs) (hB : B ≤ w.heap.size) (hn : n ≤ 1048576) :
    Calls Try.prog 20 #[.slice A n c] w fun e w' => ∃ v l v2 l2, e = .returned (.tuple #[v, v2]) ∧ Own .u8 5 w' w.heap.size v l ∧ l.length ≤ 3 ∧ (∀ z ∈ l, 0 ≤ z ∧ z ≤ 255) ∧ Own .u8 5 w' w.heap.size v2 l2 ∧ l2.length ≤ 6 ∧ (∀ z ∈ l2, 0 ≤ z ∧ z ≤ 255) ∧ Below w.heap.size w w' := by
  go_enter Try.func20, Try.ntmps20
  go_wp2_with fail
  refine (spec_l1New A n c B zs _ hb hB hn).mono ?_
  rintro e w1 ⟨rfl, hc1, hb1⟩
  have hs1 := hb1.size
  go_wp2_with fail
  refine (spec_l1Below _ 3 _ hc1 (by omega)).mono ?_
  rintro e w2 ⟨x, hx, rfl, hc2, hg2⟩
  go_wp2_with fail
  refine (spec_l1Bytes _ x _ hc2 (by omega)).mono ?_
  rintro e w3 ⟨v, l, rfl, hown, hl, hby, hc3, hg3⟩
  have hg23 := only_trans hg2 hg3
  have hs23 := hg23.size
  have hs2 := hg2.size
  have hgl := hc1.lt
  have HBY := Lib.hid hby
  clear hby
  go_wp2_with fail
  refine (spec_l1Below _ 6 _ hc3 (by omega)).mono ?_
  rintro e w4 ⟨y, hy, rfl, hc4, hg4⟩
  have hown4 := hown.grown hg4 (fun g' e' => by have := (hown.block g' e').1; intro e; injection e with e; omega)
  have hg24 := only_trans hg23 hg4
  have hs24 := hg24.size
  go_wp2_with fail
  refine (spec_l1Bytes _ y _ hc4 (by omega)).mono ?_
  rintro e w5 ⟨v2, l2, rfl, hown2, hl2, hby2, hc5, hg5⟩
  have hown5 := hown4.grown hg5 (fun g' e' => by have := (hown4.block g' e').1; intro e; injection e with e; omega)
  have HBY2 := Lib.hid hby2
  clear hby2
  go_wp2
  go_ret2
  exact ⟨v, l, v2, l2, rfl, hown5.mono (by omega), by omega, HBY.out, hown2.mono (by omega), by omega, HBY2.out, hb1.trans (below_of_only (only_trans hg24 hg5) (Nat.le_refl _) hs1)⟩
set_option maxHeartbeats 1000000 in
theorem spec_DrawReadUvarint (A : Option Addr) (n c B : Nat) (zs : List Int) (w : World) (hb : Bytes w B A n zs) (hB : B ≤ w.heap.size) (hn : n ≤ 1048576) :
    Calls Try.prog 18 #[.slice A n c] w fun e w' => ∃ v l a, e = .returned (.tuple #[v, .int .i64 a]) ∧ Own .u8 5 w' w.heap.size v l ∧ l.length ≤ 20 ∧ (∀ z ∈ l, 0 ≤ z ∧ z ≤ 255) ∧ (-1 ≤ a ∧ a ≤ 3) ∧ Below w.heap.size w w' := by
  go_enter Try.func18, Try.ntmps18
  go_wp2_with fail
  refine (spec_l1New A n c B zs _ hb hB hn).mono ?_
  rintro e w1 ⟨rfl, hc1, hb1⟩
  have hs1 := hb1.size
  have hgl := hc1.lt
  go_wp2_with fail
  refine (spec_l1Once _ 2 _ hc1 (by omega)).mono ?_
  rintro e w2 ⟨b, rfl, hc2, hg2⟩
  have hs2 := hg2.size
  cases b
  · go_wp2_with fail
    refine (spec_l1Below _ 8 _ (hc2.alloc _) (by omega)).mono ?_
    rintro e w3 ⟨x, hx, rfl, hc3, hg3⟩
    have hg13 := only_trans (only_bare hg2 (.cells #[] 5)) hg3
    have hown0 := (own_bare .u8 5 w2).grown hg3 (fun g' e' => by have := ((own_bare .u8 5 w2).block g' e').1; intro e; injection e with e; omega)
    have hown0 := hown0.mono (lo' := w1.heap.size) hs2
    go_wp2
    go_loopw [5, 6] (fun v i wr => ∃ (k : Nat) (l : List Int), i = .int .i64 (k : Int) ∧ k + l.length ≤ 8 ∧ (∀ z ∈ l, 0 ≤ z ∧ z ≤ 255) ∧ Own .u8 5 wr w1.heap.size v l ∧ Curs wr w.heap.size ∧ w1.grownBy wr (some w.heap.size)) (fun _ i _ => (intOf i).toNat)
    case atStart => exact ⟨x, [], rfl, by simp; omega, by simp, hown0, hc3, hg13⟩
    case round =>
      clear hg13 hown0 hc3 hg3 hc2 hg2
      obtain ⟨k, l, rfl, hl, hby, hown, hcu, hbl⟩ := hrel
      have hsz := hbl.size
      have HBY := Lib.hid hby
      clear hby
      by_cases hlt : 0 < k
      · go_wp2_with fail
        refine (spec_l1Int w.heap.size wr.heap.size [128, 255, 0, 1, 127] _ _ _ _ (hcu.alloc _) rfl (by decide) (heap_alloc_new wr _) (by omega) (by decide)).mono ?_
        rintro e w4 ⟨z, hz, rfl, hc4, hg4⟩
        have hzr : 0 ≤ z ∧ z ≤ 255 := by
          simp only [List.mem_cons, List.not_mem_nil, or_false] at hz
          omega
        obtain ⟨hz1, hz2⟩ := hzr
        have hwr : IntKind.u8.wrap z = z := by rw [IntKind.wrap_u8']; omega
        have hown4 := (hown.alloc (.cells (([128, 255, 0, 1, 127] : List Int).map (Value.int .i64)).toArray 3)).grown hg4 (fun g' e' => by have := (hown.block g' e').1; intro e; injection e with e; omega)
        have hbl4 := only_trans (only_bare hbl (.cells (([128, 255, 0, 1, 127] : List Int).map (Value.int .i64)).toArray 3)) hg4
        have hs4 := hbl4.size
        clear hz hown hcu hbl hg4
        go_wp2_with (at_builtin; refine wpList_app1 rfl _ _ 22 rfl .u8 5 1 Try.underlying22 info_u8 w1.heap.size _ l rfl hown4 (by decide) (by omega) _ _ _ w4.heap.size hs4 rfl (by simp) ?_; intro v5 w5 hown5 hgrow5 hat5)
        have hbl5 := only_push hown4 (only_bare hbl4 _) (Nat.le_refl _) hgrow5
        have hc5 := (hc4.alloc (.cells #[.int .u8 z] 5)).below (Below.grown (Below.refl (w.heap.size + 1) _) hgrow5 (by simp <;> omega) (fun k' hk => by have := (hown4.block k' hk).1; omega))
        clear hgrow5 hat5 hown4 hbl4
        go_roundw
        case rel => exact ⟨k - 1, l ++ [z], by go_num, by simp; omega, by intro y hy; rcases List.mem_append.1 hy with hy | hy; exact HBY.out y hy; rw [List.mem_singleton] at hy; omega, hown5, hc5, hbl5⟩
        case measure => simp [intOf]; omega
      · go_wp2_with fail
        refine (spec_l1Below _ 4 _ hcu (by omega)).mono ?_
        rintro e w4 ⟨y, hy, rfl, hc4, hg4⟩
        have hown4 := hown.grown hg4 (fun g' e' => by have := (hown.block g' e').1; intro e; injection e with e; omega)
        have hbl4 := only_trans hbl hg4
        clear hown hbl hg4 hcu
        go_wp2
        go_ret2
        exact ⟨_, l, _, rfl, hown4.mono hs1, by omega, HBY.out, by omega, hb1.trans (below_of_only hbl4 (Nat.le_refl _) hs1)⟩
  · go_wp2_with fail
    refine (spec_l1Bytes _ 1 _ hc2 (by omega)).mono ?_
    rintro e w3 ⟨v, l, rfl, hown, hl, hby, hc3, hg3⟩
    have hg23 := only_trans hg2 hg3
    have HBY := Lib.hid hby
    have HL := Lib.hid hl
    clear hby hl
    go_wp2_with fail
    refine (spec_l1Num _ _ hc3).mono ?_
    rintro e w4 ⟨N, hN, rfl, hc4, hg4⟩
    have hown4 := hown.grown hg4 (fun g' e' => by have := (hown.block g' e').1; intro e; injection e with e; omega)
    have hg24 := only_trans hg23 hg4
    have hs24 := hg24.size
    obtain ⟨A5, c5, rfl⟩ := hown4.sliced
    have hbare := hown4.nilcap''
    go_wp2_with fail
    refine (spec_AppendUvarint A5 _ c5 _ l N _ hown4.ints hbare (Nat.le_refl _) (by have := HL.out; omega)).mono ?_
    rintro e w5 ⟨v5, rfl, hown5, hb5⟩
    have hlen := (vput_length l N).1
    go_wp2
    go_ret2
    have hl := HL.out
    have h5 := hown5.mono (lo' := w.heap.size) (by omega)
    have h6 := (hb1.trans (below_of_only hg24 (Nat.le_refl _) hs1)).trans (hb5.mono (B' := w.heap.size) (by omega))
    exact ⟨v5, vput l N, 1, rfl, h5, by omega, vput_byte N HBY.out, by omega, h6⟩
end Go.Proofs.Ytekpopndjcdgiaa
