/- Contracts of ParseInt and FormatInt: program and model. -/
import Derived.Test.YtoeiafpmiiiigaaDoorInts
import Derived.Test.YtoeiafpmiiiigaaDoorDigits
namespace Go.Proofs.YtoeiafpmiiiigaaDoor
open Go.RowKit

/-- what ParseInt answers. -/
def parseR (l : List UInt8) : Value := if canon l = true then .tuple #[.int .i64 (val l), .bool true] else .tuple #[.int .i64 0, .bool false]
theorem parseR_no {l : List UInt8} (h : canon l = false) : parseR l = .tuple #[.int .i64 0, .bool false] := by unfold parseR; rw [if_neg (by rw [h]; simp)]
theorem parseR_yes {l : List UInt8} (h : canon l = true) : parseR l = .tuple #[.int .i64 (val l), .bool true] := by unfold parseR; rw [if_pos h]

theorem toList_size (s : ByteArray) : s.toList.length = s.size := by rw [ByteArray.toList_eq]; simp
theorem toList_get (s : ByteArray) (k : Nat) (h : k < s.size) : s.toList[k]? = some s[k] := by
  rw [ByteArray.toList_eq]
  simp [ByteArray.getElem_eq_getElem_data, h]
theorem toList_take_succ (s : ByteArray) (k : Nat) (h : k < s.size) : s.toList.take (k + 1) = s.toList.take k ++ [s[k]] := by
  rw [List.take_add_one, toList_get s k h]
  rfl
theorem canon_digits {l : List UInt8} (h : canon l = true) : ∀ c ∈ l, isDig c = true := ((canon_iff l).1 h).2.1
theorem canon_le {l : List UInt8} (h : canon l = true) : val l ≤ 1000000000000 := ((canon_iff l).1 h).2.2.1
theorem canon_of_bad {s : ByteArray} {k : Nat} (hk : k < s.size) (h : isDig s[k] = false) : canon s.toList = false := by
  cases hc : canon s.toList
  · rfl
  · have := canon_digits hc s[k] (List.mem_of_getElem? (toList_get s k hk))
    rw [h] at this
    cases this
theorem canon_of_big {l : List UInt8} {k : Nat} (h : 1000000000000 < val (l.take k)) : canon l = false := by
  cases hc : canon l
  · rfl
  · have := canon_le hc
    have := val_le_take l k
    omega

/-- the first k bytes are digits, and spell a value in range. -/
def Dig (s : ByteArray) (k : Nat) : Prop := (∀ c ∈ s.toList.take k, isDig c = true) ∧ val (s.toList.take k) ≤ 1000000000000
theorem Dig.step {s : ByteArray} {k : Nat} (h : Dig s k) (hk : k < s.size) (hd : isDig s[k] = true) : Dig s (k + 1) ↔ 10 * val (s.toList.take k) + (s[k].toNat - 48) ≤ 1000000000000 := by
  unfold Dig
  rw [toList_take_succ s k hk, val_snoc]
  refine ⟨fun h => h.2, fun h2 => ⟨fun c hc => ?_, h2⟩⟩
  rcases List.mem_append.1 hc with hc | hc
  · exact h.1 c hc
  · rw [List.mem_singleton.1 hc]; exact hd
theorem Dig.all {s : ByteArray} (h : Dig s s.size) : (∀ c ∈ s.toList, isDig c = true) ∧ val s.toList ≤ 1000000000000 := by
  unfold Dig at h
  rw [List.take_of_length_le (by rw [toList_size]; omega)] at h
  exact h

/-- l holds the digits of n that are no longer in x. -/
def Fmt (n x : Int) (l : List UInt8) : Prop := digs n.natAbs = digs x.natAbs ++ l ∧ x.natAbs ≤ n.natAbs ∧ n.natAbs < 10 ^ 19
theorem Fmt.start {n : Int} (h : n.natAbs < 10 ^ 19) : Fmt n n [] := ⟨by simp, Nat.le_refl _, h⟩
theorem Fmt.len {n x : Int} {l : List UInt8} (h : Fmt n x l) : l.length ≤ 19 := by
  have h1 := congrArg List.length h.1
  have h2 := digs_length 19 _ h.2.2
  rw [List.length_append] at h1
  omega
theorem Fmt.step {n x : Int} {l : List UInt8} {d : Int} (h : Fmt n x l) (hx : x ≠ 0) (hd : d = 48 + ((x.natAbs % 10 : Nat) : Int)) : Fmt n (x.tdiv 10) (UInt8.ofNat d.toNat :: l) := by
  have e : (x.tdiv 10).natAbs = x.natAbs / 10 := by rw [Int.natAbs_tdiv]; rfl
  refine ⟨?_, ?_, h.2.2⟩
  · rw [h.1, digs_pos (n := x.natAbs) (by omega), e, List.append_assoc]
    congr 2
    subst hd
    simp only [List.singleton_append, List.cons.injEq, and_true]
    congr 1
  · rw [e]; have := h.2.1; omega
theorem Fmt.done {n : Int} {l : List UInt8} (h : Fmt n 0 l) (hn : n ≠ 0) : fmtI n = if n < 0 then 45 :: l else l := by
  unfold fmtI
  rw [if_neg hn, h.1]
  simp [digs_zero]
theorem tmod_abs (x : Int) : (x.tmod 10).natAbs = x.natAbs % 10 := by rw [Int.natAbs_tmod]; rfl
theorem tdiv_abs (x : Int) : (x.tdiv 10).natAbs = x.natAbs / 10 := by rw [Int.natAbs_tdiv]; rfl
theorem str_append (a b : List UInt8) : (⟨a.toArray⟩ : ByteArray) ++ ⟨b.toArray⟩ = ⟨(a ++ b).toArray⟩ := by
  apply ByteArray.ext
  simp

/-- the first k bytes are digits. -/
def Digs (s : ByteArray) (k : Nat) : Prop := ∀ c ∈ s.toList.take k, isDig c = true
theorem Digs.step {s : ByteArray} {k : Nat} (h : Digs s k) (hk : k < s.size) (hd : isDig s[k] = true) : Digs s (k + 1) := by
  unfold Digs
  rw [toList_take_succ s k hk]
  intro c hc
  rcases List.mem_append.1 hc with hc | hc
  · exact h c hc
  · rw [List.mem_singleton.1 hc]; exact hd
theorem Digs.bound {s : ByteArray} {k : Nat} (h : Digs s k) (hk : k ≤ 13) : val (s.toList.take k) < 10000000000000 := by
  have h1 := val_lt _ h
  have h2 : (s.toList.take k).length ≤ 13 := by have := List.length_take_le k s.toList; omega
  have h3 : 10 ^ (s.toList.take k).length ≤ 10 ^ 13 := Nat.pow_le_pow_right (by decide) h2
  omega
theorem isDig_inB (c : UInt8) : inB (c.toNat : Int) 48 57 = isDig c := by
  cases h : isDig c
  · cases h2 : inB (c.toNat : Int) 48 57
    · rfl
    · obtain ⟨a, b⟩ := inB_t h2
      rw [(isDig_iff c).2 ⟨by omega, by omega⟩] at h
      cases h
  · obtain ⟨a, b⟩ := (isDig_iff c).1 h
    simp [inB]
    omega

theorem impl_pushDigit_no (p : Addr) (c : UInt8) (w : World) (h : isDig c = false) :
    Calls Tryd.prog 18 #[.pointer (some p), .int .u8 (c.toNat : Int)] w fun e w' => e = .returned (.bool false) ∧ w = w' := by
  have hc : ¬ (48 ≤ c.toNat ∧ c.toNat ≤ 57) := fun hh => by rw [(isDig_iff c).2 hh] at h; cases h
  have hu : c.toNat < 256 := c.toNat_lt
  have H := Lib.hid h
  clear h
  by_cases h1 : c.toNat < 48
  all_goals
    go_enter Tryd.func18, Tryd.ntmps18
    go_wp2
    go_ret
    exact ⟨rfl, rfl⟩
theorem impl_pushDigit_yes (p : Addr) (c : UInt8) (v : Nat) (w : World) (h : isDig c = true) (hv : v ≤ 1000000000000) (hc : w.cell? p = some (.int .i64 v)) (hf : w.frozen? p = false) :
    Calls Tryd.prog 18 #[.pointer (some p), .int .u8 (c.toNat : Int)] w fun e w' => e = .returned (.bool (decide (10 * v + (c.toNat - 48) ≤ 1000000000000))) ∧ w' = w.setCell p (.int .i64 (10 * v + (c.toNat - 48) : Nat)) := by
  obtain ⟨h1, h2⟩ := (isDig_iff c).1 h
  have H := Lib.hid h
  clear h
  have hu : c.toNat < 256 := c.toNat_lt
  have e1 : ((v : Int) * 10 + ((c.toNat : Int) - 48)) = ((10 * v + (c.toNat - 48) : Nat) : Int) := by omega
  have e2 : decide ((v : Int) * 10 + ((c.toNat : Int) - 48) ≤ 1000000000000) = decide (10 * v + (c.toNat - 48) ≤ 1000000000000) := by
    rw [e1]; exact decide_eq_decide.2 (by omega)
  have E1 := Lib.hid e1
  have E2 := Lib.hid e2
  clear e1 e2
  go_enter Tryd.func18, Tryd.ntmps18
  go_wp2
  go_ret
  exact ⟨ret_eq (congrArg Value.bool E2.out), by rw [← E1.out]⟩
theorem impl_ParseInt (s : ByteArray) (w : World) (hs : s.size ≤ 1048576) :
    Calls Tryd.prog 7 #[.string s] w fun e w' => e = .returned (parseR s.toList) ∧ Below w.heap.size w w' := by
  by_cases h0 : s.toList = []
  · have hr : parseR s.toList = .tuple #[.int .i64 0, .bool false] := parseR_no (by rw [h0]; rfl)
    have HR := Lib.hid hr
    clear hr
    go_enter Tryd.func7, Tryd.ntmps7
    go_wp2
    go_ret2
    exact ⟨by rw [HR.out]; rfl, Below.refl _ _⟩
  · have hpos : 0 < s.size := by
      rw [← toList_size]
      exact List.length_pos_iff.2 h0
    have hne : s.toList.isEmpty = false := by simpa using h0
    have h00 := toList_get s 0 hpos
    by_cases h1 : s[0].toNat = 48 ∧ s.toList ≠ [48]
    · obtain ⟨h1, h2⟩ := h1
      have hr : parseR s.toList = .tuple #[.int .i64 0, .bool false] := parseR_no (by
        have e : s[0] = 48 := UInt8.toNat_inj.1 h1
        rw [e] at h00
        have hh : s.toList.head? = some 48 := by rw [List.head?_eq_getElem?]; exact h00
        simp [canon, hh, h2])
      have HR := Lib.hid hr
      have h3 : (!s.toList == [48]) = true := by simpa using h2
      have h4 : ((s[0].toNat : Int) == 48) = true := by rw [beq_iff_eq]; omega
      clear hr h00
      go_enter Tryd.func7, Tryd.ntmps7
      go_wp2
      go_ret2
      exact ⟨by rw [HR.out]; rfl, Below.refl _ _⟩
    · have hcan : (∀ c ∈ s.toList, isDig c = true) → val s.toList ≤ 1000000000000 → canon s.toList = true := by
        intro g1 g2
        simp only [canon, Bool.and_eq_true, Bool.not_eq_true', List.all_eq_true, Bool.or_eq_true, bne_iff_ne, ne_eq, beq_iff_eq, decide_eq_true_eq]
        refine ⟨⟨⟨hne, g1⟩, ?_⟩, g2⟩
        by_cases h2 : s.toList = [48]
        · exact .inr h2
        · left
          intro e
          rw [List.head?_eq_getElem?, h00] at e
          have e' : s[0] = 48 := by simpa using e
          exact h1 ⟨by rw [e']; rfl, h2⟩
      clear h00
      have hrest : ∀ (ok : s[0].toNat = 48 → s.toList = [48]), Calls Tryd.prog 7 #[.string s] w fun e w' => e = .returned (parseR s.toList) ∧ Below w.heap.size w w' := by
        intro ok
        have HC := Lib.hid hcan
        clear hcan
        by_cases h2 : s[0].toNat = 48
        · have h3 : (!s.toList == [48]) = false := by simpa using ok h2
          have h4 : ((s[0].toNat : Int) == 48) = true := by rw [beq_iff_eq]; omega
          clear ok h1 h0
          have H2 := Lib.hid h2
          clear h2
          go_enter Tryd.func7, Tryd.ntmps7
          go_wp2
          go_loopw [19] (fun i wr => ∃ k : Nat, k ≤ s.size ∧ i = .int .i64 k ∧ Dig s k ∧ wr.cell? ⟨w.heap.size, 0, none⟩ = some (.int .i64 (val (s.toList.take k))) ∧ wr.frozen? ⟨w.heap.size, 0, none⟩ = false ∧ Below w.heap.size w wr) (fun i _ => s.size - (intOf i).toNat)
          case atStart => exact ⟨0, Nat.zero_le _, rfl, ⟨by simp, by simp [val_nil]⟩, by simp [val_nil], by simp, (Below.refl _ _).alloc (Nat.le_refl _) _⟩
          case round =>
            obtain ⟨k, hk, rfl, hd, hcell, hfr, hbl⟩ := hrel
            by_cases hlt : k < s.size
            · cases hdk : isDig s[k]
              · have HR := Lib.hid (ret_eq (parseR_no (canon_of_bad hlt hdk)))
                go_wp2_with fail
                refine (impl_pushDigit_no _ _ _ hdk).mono ?_
                clear hdk
                rintro e w' ⟨rfl, rfl⟩
                go_wp2
                go_ret2
                exact ⟨by rw [HR.out]; rfl, hbl⟩
              · have hv := hd.2
                have hts := toList_take_succ s k hlt
                have hval : val (s.toList.take (k + 1)) = 10 * val (s.toList.take k) + (s[k].toNat - 48) := by rw [hts, val_snoc]
                have HD : Hid (Dig s (k + 1) ↔ 10 * val (s.toList.take k) + (s[k].toNat - 48) ≤ 1000000000000) := Dig.step hd hlt hdk
                have HV := Lib.hid hval
                clear hts hval
                by_cases hbig : 10 * val (s.toList.take k) + (s[k].toNat - 48) ≤ 1000000000000
                · go_wp2_with fail
                  refine (impl_pushDigit_yes _ _ _ _ hdk hv hcell hfr).mono ?_
                  clear hdk
                  rintro e w' ⟨rfl, rfl⟩
                  go_wp2
                  go_roundw
                  case rel => exact ⟨k + 1, by omega, by go_num, HD.out.2 hbig, by rw [HV.out]; go_simp, by go_simp, hbl.setCell (Nat.le_refl _) _⟩
                  case measure => simp [intOf]; omega
                · have HR := Lib.hid (ret_eq (parseR_no (l := s.toList) (canon_of_big (k := k + 1) (by rw [HV.out]; omega))))
                  go_wp2_with fail
                  refine (impl_pushDigit_yes _ _ _ _ hdk hv hcell hfr).mono ?_
                  clear hdk
                  rintro e w' ⟨rfl, rfl⟩
                  go_wp2
                  go_ret2
                  exact ⟨by rw [HR.out]; rfl, hbl.setCell (Nat.le_refl _) _⟩
            · have hkk : k = s.size := by omega
              have hall := Dig.all (hkk ▸ hd)
              have HR := Lib.hid (ret_eq (parseR_yes (HC.out hall.1 hall.2)))
              have htk : s.toList.take k = s.toList := List.take_of_length_le (by rw [toList_size]; omega)
              rw [htk] at hcell
              clear hkk htk hall
              go_wp2
              go_ret2
              exact ⟨by rw [HR.out]; rfl, hbl⟩
        · have h4 : ((s[0].toNat : Int) == 48) = false := by rw [beq_eq_false_iff_ne]; omega
          clear ok h1 h0
          go_enter Tryd.func7, Tryd.ntmps7
          go_wp2
          go_loopw [19] (fun i wr => ∃ k : Nat, k ≤ s.size ∧ i = .int .i64 k ∧ Dig s k ∧ wr.cell? ⟨w.heap.size, 0, none⟩ = some (.int .i64 (val (s.toList.take k))) ∧ wr.frozen? ⟨w.heap.size, 0, none⟩ = false ∧ Below w.heap.size w wr) (fun i _ => s.size - (intOf i).toNat)
          case atStart => exact ⟨0, Nat.zero_le _, rfl, ⟨by simp, by simp [val_nil]⟩, by simp [val_nil], by simp, (Below.refl _ _).alloc (Nat.le_refl _) _⟩
          case round =>
            obtain ⟨k, hk, rfl, hd, hcell, hfr, hbl⟩ := hrel
            by_cases hlt : k < s.size
            · cases hdk : isDig s[k]
              · have HR := Lib.hid (ret_eq (parseR_no (canon_of_bad hlt hdk)))
                go_wp2_with fail
                refine (impl_pushDigit_no _ _ _ hdk).mono ?_
                clear hdk
                rintro e w' ⟨rfl, rfl⟩
                go_wp2
                go_ret2
                exact ⟨by rw [HR.out]; rfl, hbl⟩
              · have hv := hd.2
                have hts := toList_take_succ s k hlt
                have hval : val (s.toList.take (k + 1)) = 10 * val (s.toList.take k) + (s[k].toNat - 48) := by rw [hts, val_snoc]
                have HD : Hid (Dig s (k + 1) ↔ 10 * val (s.toList.take k) + (s[k].toNat - 48) ≤ 1000000000000) := Dig.step hd hlt hdk
                have HV := Lib.hid hval
                clear hts hval
                by_cases hbig : 10 * val (s.toList.take k) + (s[k].toNat - 48) ≤ 1000000000000
                · go_wp2_with fail
                  refine (impl_pushDigit_yes _ _ _ _ hdk hv hcell hfr).mono ?_
                  clear hdk
                  rintro e w' ⟨rfl, rfl⟩
                  go_wp2
                  go_roundw
                  case rel => exact ⟨k + 1, by omega, by go_num, HD.out.2 hbig, by rw [HV.out]; go_simp, by go_simp, hbl.setCell (Nat.le_refl _) _⟩
                  case measure => simp [intOf]; omega
                · have HR := Lib.hid (ret_eq (parseR_no (l := s.toList) (canon_of_big (k := k + 1) (by rw [HV.out]; omega))))
                  go_wp2_with fail
                  refine (impl_pushDigit_yes _ _ _ _ hdk hv hcell hfr).mono ?_
                  clear hdk
                  rintro e w' ⟨rfl, rfl⟩
                  go_wp2
                  go_ret2
                  exact ⟨by rw [HR.out]; rfl, hbl.setCell (Nat.le_refl _) _⟩
            · have hkk : k = s.size := by omega
              have hall := Dig.all (hkk ▸ hd)
              have HR := Lib.hid (ret_eq (parseR_yes (HC.out hall.1 hall.2)))
              have htk : s.toList.take k = s.toList := List.take_of_length_le (by rw [toList_size]; omega)
              rw [htk] at hcell
              clear hkk htk hall
              go_wp2
              go_ret2
              exact ⟨by rw [HR.out]; rfl, hbl⟩
      exact hrest fun h => Classical.byContradiction fun h' => h1 ⟨h, h'⟩
theorem spec_FormatInt (n : Int) (w : World) (h1 : -9223372036854775808 ≤ n) (h2 : n ≤ 9223372036854775807) :
    Calls Tryd.prog 13 #[.int .i64 n] w fun e w' => e = .returned (.string ⟨(fmtI n).toArray⟩) ∧ Below w.heap.size w w' := by
  by_cases h0 : n = 0
  · subst h0
    go_enter Tryd.func13, Tryd.ntmps13
    go_wp2
    go_ret
    exact ⟨rfl, Below.refl _ _⟩
  · have hb : (n == 0) = false := by simpa using h0
    go_enter Tryd.func13, Tryd.ntmps13
    go_wp2
    go_loopw [3, 4] (fun s i wr => ∃ (x : Int) (l : List UInt8), i = .int .i64 x ∧ s = .string ⟨l.toArray⟩ ∧ Fmt n x l ∧ Below w.heap.size w wr) (fun _ i _ => (intOf i).natAbs)
    case atStart => exact ⟨n, [], rfl, rfl, Fmt.start (by omega), Below.refl _ _⟩
    case round =>
      obtain ⟨x, l, rfl, rfl, hf, hbl⟩ := hrel
      have hl20 := hf.len
      have hxn := hf.2.1
      by_cases hx : x = 0
      · subst hx
        have HF := Lib.hid (hf.done h0)
        by_cases hn : n < 0
        all_goals
          go_wp2
          go_ret
          first
            | exact ⟨by rw [HF.out, if_pos hn]; exact ret_eq (congrArg Value.string (str_append [45] l)), hbl⟩
            | exact ⟨by rw [HF.out, if_neg (by omega)]; rfl, hbl⟩
      · have hxb : (x == 0) = false := by simpa using hx
        have hcv := run_string_of_new1 (P := Tryd.prog) Tryd.underlying22 Tryd.underlying5 Tryd.underlying9 5
        have ht := mod_of_tmod x 10 (by omega)
        have hw : wrap64 (x.tdiv 10) = x.tdiv 10 := IntWalk.wrap64_in _ (by have := tdiv_abs x; omega)
        have HW := Lib.hid hw
        clear hw
        by_cases hn : x.tmod 10 < 0
        all_goals
          have HA := Lib.hid (tmod_abs x)
          have HB := Lib.hid (tdiv_abs x)
          go_wp2
          go_roundw
          case measure => rw [HW.out]; simp only [intOf]; have := HB.out; omega
          case rel => exact ⟨_, _, rfl, congrArg Value.string (str_append [_] l), by rw [HW.out]; exact hf.step hx (by have := HA.out; omega), hbl.alloc hbl.size _⟩
end Go.Proofs.YtoeiafpmiiiigaaDoor
