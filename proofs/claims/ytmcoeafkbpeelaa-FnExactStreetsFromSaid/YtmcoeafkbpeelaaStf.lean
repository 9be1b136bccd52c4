/- Chapter 20: StreetsFrom: program and model. -/
import Derived.Test.YtmcoeafkbpeelaaInts
import Derived.Test.YtmcoeafkbpeelaaStt
import Derived.Test.YtmcoeafkbpeelaaStg
import Derived.Test.YtmcoeafkbpeelaaSortC
import Derived.Test.YtmcoeafkbpeelaaSortF
namespace Go.Proofs.Ytmcoeafkbpeelaa
open Go.RowKit
set_option linter.unusedVariables false

theorem putI_nilF (n : Int) : putI [] n = [n] := by simp [putI, lowN]
theorem putI_consF (z : Int) (zs : List Int) (n : Int) : putI (z :: zs) n = if z < n then z :: putI zs n else if z = n then z :: zs else n :: z :: zs := by
  unfold putI lowN
  by_cases h : z < n
  · rw [if_pos h, List.takeWhile_cons_of_pos (by simpa using h)]
    simp only [List.length_cons, List.getElem?_cons_succ, List.take_succ_cons, List.drop_succ_cons, List.cons_append]
    split <;> rfl
  · rw [if_neg h, List.takeWhile_cons_of_neg (by simpa using h)]
    simp only [List.length_nil, List.getElem?_cons_zero, List.take_zero, List.drop_zero, List.nil_append, Option.some.injEq]
theorem put_memF (n : Int) : ∀ (zs : List Int) (x : Int), x ∈ putI zs n ↔ x ∈ zs ∨ x = n
  | [], x => by rw [putI_nilF]; simp
  | z :: zs, x => by
    rw [putI_consF]
    split
    · rw [List.mem_cons, put_memF n zs x, List.mem_cons, or_assoc]
    · split
      · rename_i h
        subst h
        simp only [List.mem_cons]
        constructor
        · exact fun h => .inl h
        · rintro (h | h)
          · exact h
          · exact .inl h
      · simp only [List.mem_cons]
        constructor
        · rintro (h | h | h)
          · exact .inr h
          · exact .inl (.inl h)
          · exact .inl (.inr h)
        · rintro ((h | h) | h)
          · exact .inr (.inl h)
          · exact .inr (.inr h)
          · exact .inl h
theorem put_ascF (n : Int) : ∀ {zs : List Int}, zs.Pairwise (· < ·) → (putI zs n).Pairwise (· < ·)
  | [], _ => by rw [putI_nilF]; simp
  | z :: zs, h => by
    obtain ⟨h1, h2⟩ := List.pairwise_cons.1 h
    rw [putI_consF]
    split
    · rename_i hlt
      refine List.pairwise_cons.2 ⟨fun y hy => ?_, put_ascF n h2⟩
      rcases (put_memF n zs y).1 hy with h3 | rfl
      · exact h1 y h3
      · exact hlt
    · split
      · exact h
      · refine List.pairwise_cons.2 ⟨fun y hy => ?_, h⟩
        rcases List.mem_cons.1 hy with rfl | h3
        · omega
        · have := h1 y h3; omega
theorem putI_lengthF (zs : List Int) (n : Int) : (putI zs n).length ≤ zs.length + 1 := by
  unfold putI
  split
  · omega
  · rw [List.length_append, List.length_cons, List.length_take, List.length_drop]
    omega
def sttF (zs : List Stt) (k : Nat) : Stt := zs.getD k ⟨0, 0, 0⟩
theorem sttF_some {zs : List Stt} {k : Nat} {x : Stt} (h : zs[k]? = some x) : sttF zs k = x := by unfold sttF; rw [List.getD_eq_getElem?_getD, h]; rfl
/-- the ends of the first k streets from a crossing, as the program gathers them. -/
def stfT (zs : List Stt) (f : Int) : Nat → List Int
  | 0 => []
  | k + 1 => if (sttF zs k).frm = f then stfT zs f k ++ [(sttF zs k).to] else stfT zs f k
/-- as the model puts them into their places. -/
def stfP (zs : List Stt) (f : Int) : Nat → List Int
  | 0 => []
  | k + 1 => if (sttF zs k).frm = f then putI (stfP zs f k) (sttF zs k).to else stfP zs f k
/-- what StreetsFrom answers. -/
def stF (zs : List Stt) (f : Int) : List Int := stfP zs f zs.length
theorem stfT_len (zs : List Stt) (f : Int) : ∀ k, (stfT zs f k).length ≤ k
  | 0 => by simp [stfT]
  | k + 1 => by
    have := stfT_len zs f k
    unfold stfT
    split
    · simp; omega
    · omega
theorem stf_mem (zs : List Stt) (f : Int) : ∀ k x, x ∈ stfP zs f k ↔ x ∈ stfT zs f k
  | 0, x => by simp [stfP, stfT]
  | k + 1, x => by
    unfold stfP stfT
    split
    · rw [put_memF, stf_mem zs f k x]; simp
    · exact stf_mem zs f k x
theorem stf_asc (zs : List Stt) (f : Int) : ∀ k, (stfP zs f k).Pairwise (· < ·)
  | 0 => by simp [stfP]
  | k + 1 => by
    unfold stfP
    split
    · exact put_ascF _ (stf_asc zs f k)
    · exact stf_asc zs f k
theorem stf_eq (zs : List Stt) (f : Int) (k : Nat) : Lib.compact ((stfT zs f k).mergeSort fun x y => decide (x ≤ y)) = stfP zs f k := by
  obtain ⟨h1, h2⟩ := cmp_sort (stfT zs f k)
  exact asc_same h1 (stf_asc zs f k) fun x => by rw [h2, stf_mem]
theorem stfP_len (zs : List Stt) (f : Int) : ∀ k, (stfP zs f k).length ≤ k
  | 0 => by simp [stfP]
  | k + 1 => by
    have := stfP_len zs f k
    unfold stfP
    split
    · have := putI_lengthF (stfP zs f k) (sttF zs k).to
      omega
    · omega
theorem stF_len (zs : List Stt) (f : Int) : (stF zs f).length ≤ zs.length := stfP_len zs f zs.length
set_option maxHeartbeats 2000000 in
theorem spec_StreetsFrom (A : Option Addr) (n c B : Nat) (zs : List Stt) (f : Int) (w : World) (h : SttsAt w B A n zs) (hB : B ≤ w.heap.size) (hn : n ≤ 1048576) :
    Calls Try.prog 31 #[.slice A n c, .int .i64 f] w fun e w' => ∃ v, e = .returned v ∧ Own .i64 3 w' w.heap.size v (stF zs f) ∧ Below w.heap.size w w' := by
  have hl := h.1
  have HV : Hid (stF zs f = stfP zs f n) := Lib.hid (by unfold stF; rw [hl])
  have HH := Lib.hid h
  clear h hl
  go_enter Try.func31, Try.ntmps31
  have own0 := own_bare .i64 3 w
  go_wp2
  go_loopw [5, 6] (fun v i wr => ∃ k : Nat, k ≤ n ∧ i = .int .i64 k ∧ Own .i64 3 wr w.heap.size v (stfP zs f k) ∧ Below w.heap.size w wr) (fun _ i _ => n - (intOf i).toNat)
  case atStart => exact ⟨0, Nat.zero_le _, rfl, own0, (Below.refl _ _).alloc (Nat.le_refl _) _⟩
  case round =>
    clear own0
    obtain ⟨k, hk, rfl, ho, hbl⟩ := hrel
    have hsz := hbl.size
    have hpl := stfP_len zs f k
    have HO := Lib.hid ho
    have HB := Lib.hid hbl
    by_cases hlt : k < n
    · obtain ⟨ad, x, rfl, hab, hx, hq⟩ := HH.out.at hlt
      obtain ⟨c0, c1, c2⟩ := hq.below hbl (by omega)
      have i1 : (0 : Int) ≤ (k : Int) := by omega
      have i2 : (k : Int) < (n : Int) := by omega
      have HS : Hid (stfP zs f (k + 1) = if x.frm = f then putI (stfP zs f k) x.to else stfP zs f k) := Lib.hid (by rw [← sttF_some hx]; rfl)
      obtain ⟨ys, hys⟩ : ∃ ys, stfP zs f k = ys := ⟨_, rfl⟩
      rw [hys] at HO HS hpl
      clear hx hq hbl hys ho
      obtain ⟨Av, cv, rfl⟩ := HO.out.sliced
      by_cases g1 : x.frm = f
      · have HN : Hid (stfP zs f (k + 1) = putI ys x.to) := Lib.hid (by rw [HS.out, if_pos g1])
        have e1 : (x.frm == f) = true := by rw [beq_iff_eq]; exact g1
        have hp := spec_l6Put Av ys.length cv wr.heap.size ys x.to wr HO.out.ints (Nat.le_refl _) (by omega) HO.out.cap.1 HO.out.nilcap'
        have HLL := Lib.hid hpl
        clear g1 HS hpl
        go_wp2_with fail
        refine hp.mono ?_
        rintro e w2 ⟨v, rfl, ho2, hb2⟩
        have HB2 := Lib.hid (HB.out.trans (hb2.mono hsz))
        have HO2 := Lib.hid (ho2.mono hsz)
        clear hb2 ho2 hp c0 c1 c2
        go_wp2
        go_roundw
        case rel => exact ⟨k + 1, by omega, by go_num, by rw [HN.out]; exact HO2.out, HB2.out⟩
        case measure => simp [intOf]; omega
      · have HN : Hid (stfP zs f (k + 1) = ys) := Lib.hid (by rw [HS.out, if_neg g1])
        have e1 : (x.frm == f) = false := by rw [beq_eq_false_iff_ne]; exact g1
        clear g1 HS
        go_wp2
        go_roundw
        case rel => exact ⟨k + 1, by omega, by go_num, by rw [HN.out]; exact HO.out, HB.out⟩
        case measure => simp [intOf]; omega
    · obtain rfl : k = n := by omega
      clear ho hbl
      go_wp2
      go_ret
      exact ⟨_, rfl, by rw [HV.out]; exact HO.out, HB.out⟩
set_option maxHeartbeats 2000000 in
theorem impl_StreetsFrom (A : Option Addr) (n c B : Nat) (zs : List Stt) (f : Int) (w : World) (h : SttsAt w B A n zs) (hB : B ≤ w.heap.size) (hn : n ≤ 1048576) :
    Calls Try.prog 33 #[.slice A n c, .int .i64 f] w fun e w' => ∃ v, e = .returned v ∧ Own .i64 3 w' w.heap.size v (stF zs f) ∧ Below w.heap.size w w' := by
  have hl := h.1
  have HV : Hid (stF zs f = stfP zs f n) := Lib.hid (by unfold stF; rw [hl])
  have HH := Lib.hid h
  clear h hl
  go_enter Try.func33, Try.ntmps33
  have own0 := own_bare .i64 3 w
  go_wp2
  go_loopw [5, 11] (fun v i wr => ∃ k : Nat, k ≤ n ∧ i = .int .i64 k ∧ Own .i64 3 wr w.heap.size v (stfT zs f k) ∧ Below w.heap.size w wr) (fun _ i _ => n - (intOf i).toNat)
  case atStart => exact ⟨0, Nat.zero_le _, rfl, own0, (Below.refl _ _).alloc (Nat.le_refl _) _⟩
  case round =>
    clear own0
    obtain ⟨k, hk, rfl, ho, hbl⟩ := hrel
    have hsz := hbl.size
    have hpl := stfT_len zs f k
    have HO := Lib.hid ho
    have HB := Lib.hid hbl
    by_cases hlt : k < n
    · obtain ⟨ad, x, rfl, hab, hx, hq⟩ := HH.out.at hlt
      obtain ⟨c0, c1, c2⟩ := hq.below hbl (by omega)
      have i1 : (0 : Int) ≤ (k : Int) := by omega
      have i2 : (k : Int) < (n : Int) := by omega
      have HS : Hid (stfT zs f (k + 1) = if x.frm = f then stfT zs f k ++ [x.to] else stfT zs f k) := Lib.hid (by rw [← sttF_some hx]; rfl)
      obtain ⟨ys, hys⟩ : ∃ ys, stfT zs f k = ys := ⟨_, rfl⟩
      rw [hys] at HO HS hpl
      clear hx hq hbl hys ho
      obtain ⟨Av, cv, rfl⟩ := HO.out.sliced
      obtain ⟨wf, hwf⟩ : ∃ wf, wf = wr.alloc (.cells #[.int .i64 x.frm, .int .i64 x.to, .int .i64 x.secs] 103) := ⟨_, rfl⟩
      have hbf : Below wr.heap.size wr wf := by rw [hwf]; exact (Below.refl _ _).alloc (Nat.le_refl _) _
      have HOF := Lib.hid (HO.out.below hbf)
      have HBF := Lib.hid (HB.out.trans (hbf.mono hsz))
      have hszf : w.heap.size ≤ wf.heap.size := Nat.le_trans hsz hbf.size
      clear hbf
      by_cases g1 : x.frm = f
      · have HN : Hid (stfT zs f (k + 1) = ys ++ [x.to]) := Lib.hid (by rw [HS.out, if_pos g1])
        have e1 : (x.frm == f) = true := by rw [beq_iff_eq]; exact g1
        have HOQ := HOF.out
        rw [hwf] at HOQ
        have hs1 : w.heap.size ≤ wr.heap.size + 1 := by omega
        clear g1 HS
        go_wp2_with (at_builtin; refine wpList_app1 rfl _ _ 23 rfl .i64 3 8 Try.underlying23 info_i64 w.heap.size _ _ rfl HOQ (by decide) (by omega) _ _ _ (wr.heap.size + 1) hs1 rfl (by simp) ?_; intro v7 w7 hown7 hgrow7 hat7)
        have HB7 : Hid (Below w.heap.size w w7) := Lib.hid (HOF.out.push (Nat.le_refl _) (HBF.out.alloc hszf (.cells #[.int .i64 x.to] 3)) (by simp; omega) (by rw [hwf]; exact hgrow7))
        have HO7 := Lib.hid hown7
        clear hown7 hgrow7 hat7 HOQ hwf
        go_roundw
        case rel => exact ⟨k + 1, by omega, by go_num, by rw [HN.out]; exact HO7.out, HB7.out⟩
        case measure => simp [intOf]; omega
      · have HN : Hid (stfT zs f (k + 1) = ys) := Lib.hid (by rw [HS.out, if_neg g1])
        have e1 : (x.frm == f) = false := by rw [beq_eq_false_iff_ne]; exact g1
        clear g1 HS
        go_wp2
        go_roundw
        case rel => exact ⟨k + 1, by omega, by go_num, by rw [HN.out, ← hwf]; exact HOF.out, by rw [← hwf]; exact HBF.out⟩
        case measure => simp [intOf]; omega
    · obtain rfl : k = n := by omega
      clear ho hbl
      obtain ⟨ys, hys⟩ : ∃ ys, stfT zs f k = ys := ⟨_, rfl⟩
      have HEQ := Lib.hid (stf_eq zs f k)
      rw [hys] at HO HEQ hpl
      clear hys
      obtain ⟨Av, cv, rfl⟩ := HO.out.sliced
      have hcc := lib_SortF Av _ cv w.heap.size ys wr HO.out (by omega)
      go_wp2_with fail
      refine hcc.mono ?_
      rintro e w1 ⟨rfl, ho1, hg1⟩
      have hls : (ys.mergeSort fun x y => decide (x ≤ y)).length = ys.length := List.length_mergeSort _
      generalize (ys.mergeSort fun x y => decide (x ≤ y)) = qs at *
      have hcc2 := lib_CompactF Av _ cv w.heap.size qs w1 ho1 (by omega)
      have HB1 : Hid (Below w.heap.size w w1) := Lib.hid (HO.out.push (Nat.le_refl _) HB.out hsz hg1)
      have HB1S := Lib.hid HB1.out.size
      have HNE := Lib.hid (HO.out.block)
      clear hcc
      have HO1 := Lib.hid ho1
      clear ho1
      go_wp2_with fail
      refine hcc2.mono ?_
      rintro e w2 ⟨rfl, ho2, hg2⟩
      have hb2 : Below w.heap.size w w2 := HO1.out.push (Nat.le_refl _) HB1.out HB1S.out hg2
      clear hcc2 hg2 hg1
      go_wp2
      go_ret
      exact ⟨_, rfl, by rw [HV.out, ← HEQ.out]; exact ho2, hb2⟩
end Go.Proofs.Ytmcoeafkbpeelaa
