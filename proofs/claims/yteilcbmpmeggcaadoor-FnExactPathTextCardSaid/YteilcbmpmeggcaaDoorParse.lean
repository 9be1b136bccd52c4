/- Contracts of ParseInt and FormatInt: program and model. -/
import Derived.Test.YteilcbmpmeggcaaDoorInts
import Derived.Test.YteilcbmpmeggcaaDoorDigits
namespace Go.Proofs.YteilcbmpmeggcaaDoor
open Go.RowKit

/-- what ParseInt answers. -/
def parseR (l : List UInt8) : Value := if canon l = true then .tuple #[.int .i64 (val l), .bool true] else .tuple #[.int .i64 0, .bool false]
theorem parseR_no {l : List UInt8} (h : canon l = false) : parseR l = .tuple #[.int .i64 0, .bool false] := by unfold parseR; rw [if_neg (by rw [h]; simp)]
theorem parseR_yes {l : List UInt8} (h : canon l = true) : parseR l = .tuple #[.int .i64 (val l), .bool true] := by unfold parseR; rw [if_pos h]

theorem toList_size (s : ByteArray) : s.toList.length = s.size := by rw [ByteArray.toList_eq]; simp
theorem toList_get (s : ByteArray) (k : Nat) (h : k < s.size) : s.toList[k]? = some s[k] := by
  rw [ByteArray.toList_eq]
  simp [ByteArray.getElem_eq_getElem_data, h]
theorem toList_take_succ (s : ByteArray) (k : Nat) (h : k < s.size) : s.toList.take (k + 1) = s.toList.take k ++ [s[k]] := by
  rw [List.take_add_one, toList_get s k h]
  rfl
theorem canon_digits {l : List UInt8} (h : canon l = true) : ∀ c ∈ l, isDig c = true := ((canon_iff l).1 h).2.1
theorem canon_le {l : List UInt8} (h : canon l = true) : val l ≤ 1000000000000 := ((canon_iff l).1 h).2.2.1
theorem canon_of_bad {s : ByteArray} {k : Nat} (hk : k < s.size) (h : isDig s[k] = false) : canon s.toList = false := by
  cases hc : canon s.toList
  · rfl
  · have := canon_digits hc s[k] (List.mem_of_getElem? (toList_get s k hk))
    rw [h] at this
    cases this
theorem canon_of_big {l : List UInt8} {k : Nat} (h : 1000000000000 < val (l.take k)) : canon l = false := by
  cases hc : canon l
  · rfl
  · have := canon_le hc
    have := val_le_take l k
    omega

/-- the first k bytes are digits, and spell a value in range. -/
def Dig (s : ByteArray) (k : Nat) : Prop := (∀ c ∈ s.toList.take k, isDig c = true) ∧ val (s.toList.take k) ≤ 1000000000000
theorem Dig.step {s : ByteArray} {k : Nat} (h : Dig s k) (hk : k < s.size) (hd : isDig s[k] = true) : Dig s (k + 1) ↔ 10 * val (s.toList.take k) + (s[k].toNat - 48) ≤ 1000000000000 := by
  unfold Dig
  rw [toList_take_succ s k hk, val_snoc]
  refine ⟨fun h => h.2, fun h2 => ⟨fun c hc => ?_, h2⟩⟩
  rcases List.mem_append.1 hc with hc | hc
  · exact h.1 c hc
  · rw [List.mem_singleton.1 hc]; exact hd
theorem Dig.all {s : ByteArray} (h : Dig s s.size) : (∀ c ∈ s.toList, isDig c = true) ∧ val s.toList ≤ 1000000000000 := by
  unfold Dig at h
  rw [List.take_of_length_le (by rw [toList_size]; omega)] at h
  exact h

/-- l holds the digits of n that are no longer in x. -/
def Fmt (n x : Int) (l : List UInt8) : Prop := digs n.natAbs = digs x.natAbs ++ l ∧ x.natAbs ≤ n.natAbs ∧ n.natAbs < 10 ^ 19
theorem Fmt.start {n : Int} (h : n.natAbs < 10 ^ 19) : Fmt n n [] := ⟨by simp, Nat.le_refl _, h⟩
theorem Fmt.len {n x : Int} {l : List UInt8} (h : Fmt n x l) : l.length ≤ 19 := by
  have h1 := congrArg List.length h.1
  have h2 := digs_length 19 _ h.2.2
  rw [List.length_append] at h1
  omega
theorem Fmt.step {n x : Int} {l : List UInt8} {d : Int} (h : Fmt n x l) (hx : x ≠ 0) (hd : d = 48 + ((x.natAbs % 10 : Nat) : Int)) : Fmt n (x.tdiv 10) (UInt8.ofNat d.toNat :: l) := by
  have e : (x.tdiv 10).natAbs = x.natAbs / 10 := by rw [Int.natAbs_tdiv]; rfl
  refine ⟨?_, ?_, h.2.2⟩
  · rw [h.1, digs_pos (n := x.natAbs) (by omega), e, List.append_assoc]
    congr 2
    subst hd
    simp only [List.singleton_append, List.cons.injEq, and_true]
    congr 1
  · rw [e]; have := h.2.1; omega
theorem Fmt.done {n : Int} {l : List UInt8} (h : Fmt n 0 l) (hn : n ≠ 0) : fmtI n = if n < 0 then 45 :: l else l := by
  unfold fmtI
  rw [if_neg hn, h.1]
  simp [digs_zero]
theorem tmod_abs (x : Int) : (x.tmod 10).natAbs = x.natAbs % 10 := by rw [Int.natAbs_tmod]; rfl
theorem tdiv_abs (x : Int) : (x.tdiv 10).natAbs = x.natAbs / 10 := by rw [Int.natAbs_tdiv]; rfl
theorem str_append (a b : List UInt8) : (⟨a.toArray⟩ : ByteArray) ++ ⟨b.toArray⟩ = ⟨(a ++ b).toArray⟩ := by
  apply ByteArray.ext
  simp

/-- the first k bytes are digits. -/
def Digs (s : ByteArray) (k : Nat) : Prop := ∀ c ∈ s.toList.take k, isDig c = true
theorem Digs.step {s : ByteArray} {k : Nat} (h : Digs s k) (hk : k < s.size) (hd : isDig s[k] = true) : Digs s (k + 1) := by
  unfold Digs
  rw [toList_take_succ s k hk]
  intro c hc
  rcases List.mem_append.1 hc with hc | hc
  · exact h c hc
  · rw [List.mem_singleton.1 hc]; exact hd
theorem Digs.bound {s : ByteArray} {k : Nat} (h : Digs s k) (hk : k ≤ 13) : val (s.toList.take k) < 10000000000000 := by
  have h1 := val_lt _ h
  have h2 : (s.toList.take k).length ≤ 13 := by have := List.length_take_le k s.toList; omega
  have h3 : 10 ^ (s.toList.take k).length ≤ 10 ^ 13 := Nat.pow_le_pow_right (by decide) h2
  omega
theorem isDig_inB (c : UInt8) : inB (c.toNat : Int) 48 57 = isDig c := by
  cases h : isDig c
  · cases h2 : inB (c.toNat : Int) 48 57
    · rfl
    · obtain ⟨a, b⟩ := inB_t h2
      rw [(isDig_iff c).2 ⟨by omega, by omega⟩] at h
      cases h
  · obtain ⟨a, b⟩ := (isDig_iff c).1 h
    simp [inB]
    omega

theorem spec_FormatInt (n : Int) (w : World) (h1 : -9223372036854775808 ≤ n) (h2 : n ≤ 9223372036854775807) :
    Calls Tryd.prog 89 #[.int .i64 n] w fun e w' => e = .returned (.string ⟨(fmtI n).toArray⟩) ∧ Below w.heap.size w w' := by
  by_cases h0 : n = 0
  · subst h0
    go_enter Tryd.func89, Tryd.ntmps89
    go_wp2
    go_ret
    exact ⟨rfl, Below.refl _ _⟩
  · have hb : (n == 0) = false := by simpa using h0
    go_enter Tryd.func89, Tryd.ntmps89
    go_wp2
    go_loopw [3, 4] (fun s i wr => ∃ (x : Int) (l : List UInt8), i = .int .i64 x ∧ s = .string ⟨l.toArray⟩ ∧ Fmt n x l ∧ Below w.heap.size w wr) (fun _ i _ => (intOf i).natAbs)
    case atStart => exact ⟨n, [], rfl, rfl, Fmt.start (by omega), Below.refl _ _⟩
    case round =>
      obtain ⟨x, l, rfl, rfl, hf, hbl⟩ := hrel
      have hl20 := hf.len
      have hxn := hf.2.1
      by_cases hx : x = 0
      · subst hx
        have HF := Lib.hid (hf.done h0)
        by_cases hn : n < 0
        all_goals
          go_wp2
          go_ret
          first
            | exact ⟨by rw [HF.out, if_pos hn]; exact ret_eq (congrArg Value.string (str_append [45] l)), hbl⟩
            | exact ⟨by rw [HF.out, if_neg (by omega)]; rfl, hbl⟩
      · have hxb : (x == 0) = false := by simpa using hx
        have hcv := run_string_of_new1 (P := Tryd.prog) Tryd.underlying22 Tryd.underlying5 Tryd.underlying9 5
        have ht := mod_of_tmod x 10 (by omega)
        have hw : wrap64 (x.tdiv 10) = x.tdiv 10 := IntWalk.wrap64_in _ (by have := tdiv_abs x; omega)
        have HW := Lib.hid hw
        clear hw
        by_cases hn : x.tmod 10 < 0
        all_goals
          have HA := Lib.hid (tmod_abs x)
          have HB := Lib.hid (tdiv_abs x)
          go_wp2
          go_roundw
          case measure => rw [HW.out]; simp only [intOf]; have := HB.out; omega
          case rel => exact ⟨_, _, rfl, congrArg Value.string (str_append [_] l), by rw [HW.out]; exact hf.step hx (by have := HA.out; omega), hbl.alloc hbl.size _⟩
end Go.Proofs.YteilcbmpmeggcaaDoor
