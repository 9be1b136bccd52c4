/- CountConflicts: the program. -/
import Derived.Test.YtgdficjihkglpadDoorCrossI
import Derived.Test.YtgdficjihkglpadDoorPopI
import Derived.Test.YtgdficjihkglpadDoorTog
namespace Go.Proofs.YtgdficjihkglpadDoor
open Go.RowKit
set_option linter.unusedVariables false

def sumTo (f : Nat → Nat) : Nat → Nat
  | 0 => 0
  | n + 1 => sumTo f n + f n
theorem sumTo_ext {f g : Nat → Nat} : ∀ {n : Nat}, (∀ l, l < n → f l = g l) → sumTo f n = sumTo g n
  | 0, _ => rfl
  | n + 1, h => by
    show sumTo f n + f n = sumTo g n + g n
    rw [sumTo_ext fun l hl => h l (by omega), h n (by omega)]
theorem sumTo_upd (f : Nat → Nat) (a x : Nat) : ∀ {n : Nat}, a < n → sumTo (fun l => if l = a then x else f l) n + f a = sumTo f n + x
  | 0, h => absurd h (by omega)
  | n + 1, h => by
    show sumTo (fun l => if l = a then x else f l) n + (if n = a then x else f n) + f a = sumTo f n + f n + x
    by_cases e : n = a
    · subst e
      have : sumTo (fun l => if l = n then x else f l) n = sumTo f n := sumTo_ext fun l hl => if_neg (by omega)
      rw [if_pos rfl, this]
      omega
    · have := sumTo_upd f a x (n := n) (by omega)
      rw [if_neg e]
      omega
theorem len_filter (p : Nat → Bool) : ∀ n, ((List.range n).filter p).length = sumTo (fun l => (p l).toNat) n
  | 0 => rfl
  | n + 1 => by
    rw [List.range_succ, List.filter_append, List.length_append, len_filter p n]
    show _ = sumTo (fun l => (p l).toNat) n + (p n).toNat
    cases h : p n <;> simp [h]
theorem popc_or {m j : Nat} (hj : j < 12) (h : m.testBit j = false) : popc (m ||| 2 ^ j) = popc m + 1 := by
  unfold popc
  rw [len_filter, len_filter]
  have h1 := sumTo_upd (fun l => (m.testBit l).toNat) j 1 hj
  have h2 : sumTo (fun l => ((m ||| 2 ^ j).testBit l).toNat) 12 = sumTo (fun l => if l = j then 1 else (m.testBit l).toNat) 12 := sumTo_ext fun l hl => by
    rw [Nat.testBit_or, Nat.testBit_two_pow]
    by_cases e : l = j
    · subst e; simp
    · have e2 : ¬ j = l := fun h => e h.symm
      simp [e, e2]
  rw [h2]
  simp only [h] at h1
  simp at h1
  omega
theorem popc_zero : popc 0 = 0 := by decide
/-- all rows' bits, at i and j. -/
def totSt (ps : List Pth) (i j : Nat) : Nat := sumTo (fun k => popc (rowSt ps i j k)) 12
theorem totSt_zero (ps : List Pth) : totSt ps 0 0 = 0 := by
  have : totSt ps 0 0 = sumTo (fun _ => 0) 12 := sumTo_ext fun k _ => by rw [st_zero, popc_zero]
  rw [this]
  rfl
theorem totSt_next (ps : List Pth) (i : Nat) : totSt ps i i = totSt ps (i + 1) 0 := sumTo_ext fun k _ => by rw [st_next]
theorem totSt_no {ps : List Pth} {i j : Nat} (hj : j < i) (hc : confAt ps i j = false) : totSt ps i (j + 1) = totSt ps i j := sumTo_ext fun k _ => by rw [st_step_no hj hc]
theorem totSt_yes {ps : List Pth} {i j : Nat} (hj : j < i) (hi : i < 12) (hc : confAt ps i j = true) : totSt ps i (j + 1) = totSt ps i j + 2 := by
  have b1 : (rowSt ps i j j).testBit i = false := by
    rw [rowSt_bit]
    unfold stB
    rw [if_neg (by omega), if_pos hj]
    simp
  have b2 : (rowSt ps i j i).testBit j = false := by
    rw [rowSt_bit]
    unfold stB
    rw [if_pos hj]
    simp
  have e : totSt ps i (j + 1) = sumTo (fun k => if k = j then popc (rowSt ps i j j) + 1 else if k = i then popc (rowSt ps i j i) + 1 else popc (rowSt ps i j k)) 12 := sumTo_ext fun k _ => by
    rw [st_step_yes hj hi hc]
    by_cases e1 : k = j
    · rw [if_pos e1, if_pos e1, popc_or (by omega) b1]
    · by_cases e2 : k = i
      · rw [if_neg e1, if_pos e2, if_neg e1, if_pos e2, popc_or (by omega) b2]
      · rw [if_neg e1, if_neg e2, if_neg e1, if_neg e2]
  have h1 := sumTo_upd (fun k => if k = i then popc (rowSt ps i j i) + 1 else popc (rowSt ps i j k)) j (popc (rowSt ps i j j) + 1) (show j < 12 by omega)
  have h2 := sumTo_upd (fun k => popc (rowSt ps i j k)) i (popc (rowSt ps i j i) + 1) hi
  have hij : ¬ j = i := by omega
  simp only [if_neg hij] at h1
  have e3 : totSt ps i j = sumTo (fun k => popc (rowSt ps i j k)) 12 := rfl
  omega
theorem tot_inner {ps : List Pth} {i : Nat} (hi : i < ps.length) (h12 : ps.length ≤ 12) : ∀ j, j ≤ i → totSt ps i j = totSt ps i 0 + 2 * cntTo ps i j
  | 0, _ => by rw [cntTo_zero]; omega
  | j + 1, h => by
    have ih := tot_inner hi h12 j (by omega)
    have hp : ps[i]? = some ps[i] := List.getElem?_eq_getElem hi
    have hq : ps[j]? = some ps[j] := List.getElem?_eq_getElem (by omega)
    have hc : confAt ps i j = conf ps[i] ps[j] := by unfold confAt; rw [hp, hq]
    cases hcf : conf ps[i] ps[j]
    · rw [totSt_no (by omega) (hc.trans hcf), cntTo_no hp hq hcf, ih]
    · rw [totSt_yes (by omega) (by omega) (hc.trans hcf), cntTo_yes hp hq hcf, ih]
      omega
theorem tot_all {ps : List Pth} (h12 : ps.length ≤ 12) : ∀ i, i ≤ ps.length → totSt ps i 0 = 2 * cntAll ps i
  | 0, _ => by rw [totSt_zero]; rfl
  | i + 1, h => by
    have ih := tot_all h12 i (by omega)
    rw [← totSt_next, tot_inner (by omega) h12 i (Nat.le_refl _), ih]
    show _ = 2 * (cntAll ps i + cntTo ps i i)
    omega
theorem cross_bit (ps : List Pth) (n k : Nat) : rowSt ps n 0 k < 4096 := rowSt_lt ps n 0 k
theorem sumTo_le {f : Nat → Nat} {b : Nat} (h : ∀ l, f l ≤ b) : ∀ n, sumTo f n ≤ n * b
  | 0 => Nat.zero_le _
  | n + 1 => by
    have := sumTo_le h n
    have h2 := h n
    show sumTo f n + f n ≤ (n + 1) * b
    rw [Nat.add_mul]
    omega
theorem row_at (f : Nat → Nat) (k : Nat) (hk : k = 0 ∨ k = 1 ∨ k = 2 ∨ k = 3 ∨ k = 4 ∨ k = 5 ∨ k = 6 ∨ k = 7 ∨ k = 8 ∨ k = 9 ∨ k = 10 ∨ k = 11) (w : World) :
    (Instr.index 65 (.agg #[.int .u16 (f 0 : Nat), .int .u16 (f 1 : Nat), .int .u16 (f 2 : Nat), .int .u16 (f 3 : Nat), .int .u16 (f 4 : Nat), .int .u16 (f 5 : Nat), .int .u16 (f 6 : Nat), .int .u16 (f 7 : Nat), .int .u16 (f 8 : Nat), .int .u16 (f 9 : Nat), .int .u16 (f 10 : Nat), .int .u16 (f 11 : Nat)]) (.int .i64 (k : Int))).run Tryd.prog w = .ok (.int .u16 (f k : Nat)) w := by
  rcases hk with rfl | rfl | rfl | rfl | rfl | rfl | rfl | rfl | rfl | rfl | rfl | rfl <;> kernel_rfl
set_option maxHeartbeats 1000000 in
set_option maxRecDepth 100000 in
theorem impl_CountConflicts (A : Option Addr) (n c B : Nat) (ps : List Pth) (w : World) (h : PthsAt w B A n ps) (hB : B ≤ w.heap.size) (hn : n ≤ c ∧ c ≤ maxLen) (hn2 : n ≤ 4294967296) :
    Calls Tryd.prog 32 #[.slice A n c] w fun e w' => e = .returned (.int .i64 (countCs ps)) ∧ Below w.heap.size w w' := by
  have hl := h.1
  cases hp : arePs ps
  · have HV : Hid (countCs ps = 0) := Lib.hid (by unfold countCs; rw [hp]; rfl)
    have hcc := fun x hx => impl_crossingOf_no A n c B ps x hx
    have HP := Lib.hid hp
    clear hp hcc
    go_enter Tryd.func32, Tryd.ntmps32
    go_wp2_with fail
    refine (impl_crossingOf_no A n c B ps _ h hB hn2 HP.out).mono ?_
    rw [zero_crossing A]
    rintro e w1 ⟨rfl, hb⟩
    go_wp2
    go_ret
    exact ⟨by rw [HV.out]; rfl, hb.alloc hb.size _⟩
  · have h12 := arePs_len12 hp
    have HV : Hid ((sumTo (fun k => popc (rowSt ps n 0 k)) 12 : Nat) = 2 * cntAll ps n ∧ countCs ps = (cntAll ps n : Int)) := Lib.hid ⟨by have := tot_all h12 n (by omega); exact this, by unfold countCs; rw [hp, hl]; rfl⟩
    have HP := Lib.hid hp
    clear hp
    go_enter Tryd.func32, Tryd.ntmps32
    go_wp2_with fail
    refine (impl_crossingOf A n c B ps _ h hB hn HP.out).mono ?_
    rintro e w1 ⟨rfl, hb⟩
    have hrl := fun k => rowSt_lt ps n 0 k
    generalize hf : rowSt ps n 0 = f at *
    have hxc : (xcells A n c f).toArray = #[.slice A n c, .int .u16 (f 0 : Nat), .int .u16 (f 1 : Nat), .int .u16 (f 2 : Nat), .int .u16 (f 3 : Nat), .int .u16 (f 4 : Nat), .int .u16 (f 5 : Nat), .int .u16 (f 6 : Nat), .int .u16 (f 7 : Nat), .int .u16 (f 8 : Nat), .int .u16 (f 9 : Nat), .int .u16 (f 10 : Nat), .int .u16 (f 11 : Nat)] := rfl
    rw [hxc]
    have HRL := Lib.hid hrl
    have HB := Lib.hid hb
    clear hxc hf hrl hb
    go_wp2
    go_loopw [5, 17] (fun x i wr => ∃ k : Nat, k ≤ 12 ∧ i = .int .i64 k ∧ x = .int .i64 ((sumTo (fun k => popc (f k)) k : Nat) : Int) ∧ Below w.heap.size w wr) (fun _ i _ => 12 - (intOf i).toNat)
    case atStart => exact ⟨0, Nat.zero_le _, rfl, rfl, HB.out.alloc HB.out.size _⟩
    case round =>
      obtain ⟨k, hk, rfl, rfl, hbl⟩ := hrel
      have hle := sumTo_le (f := fun k => popc (f k)) (b := 12) (fun l => popc_le _) k
      by_cases hlt : k < 12
      · have HS : Hid (sumTo (fun k => popc (f k)) (k + 1) = sumTo (fun k => popc (f k)) k + popc (f k)) := Lib.hid rfl
        have hpl := popc_le (f k)
        have hix := row_at f k (by omega)
        generalize sumTo (fun k => popc (f k)) k = s at *
        go_wp2_with fail
        refine (impl_size (f k) _ (HRL.out k)).mono ?_
        rintro e w2 ⟨rfl, nq, rfl⟩
        go_wp2
        go_roundw
        case rel => exact ⟨k + 1, by omega, by go_num, by rw [HS.out]; go_num, belowN hbl _⟩
        case measure => simp [intOf]; omega
      · obtain rfl : k = 12 := by omega
        obtain ⟨h1, h2⟩ := HV.out
        have hc : cntAll ps n ≤ 72 := by omega
        have H2 := Lib.hid h2
        rw [h1]
        clear h1 h2
        go_wp2
        go_ret
        exact ⟨by rw [H2.out]; rfl, hbl⟩
end Go.Proofs.YtgdficjihkglpadDoor
