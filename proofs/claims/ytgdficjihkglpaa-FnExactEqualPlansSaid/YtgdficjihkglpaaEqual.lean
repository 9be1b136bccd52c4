/- Contracts of EqualBytes and EqualInts: program and model. -/
import Derived.Test.YtgdficjihkglpaaMem
namespace Go.Proofs.Ytgdficjihkglpaa
open Go.RowKit
set_option linter.unusedVariables false

/-- what EqualBytes and EqualInts answer. -/
def eqL (a b : List Int) : Bool := decide (a = b)
/-- the string of these bytes. -/
def bstr (zs : List Int) : ByteArray := zs.foldl (fun r n => r.push (UInt8.ofNat n.toNat)) ByteArray.empty
theorem bstr_fold (zs : List Int) : ∀ r : ByteArray, (zs.foldl (fun r n => r.push (UInt8.ofNat n.toNat)) r).toList = r.toList ++ zs.map fun n => UInt8.ofNat n.toNat := by
  induction zs with
  | nil => intro r; simp
  | cons z zs ih =>
    intro r
    rw [List.foldl_cons, ih, List.map_cons]
    simp [ByteArray.toList_eq]
theorem bstr_list (zs : List Int) : (bstr zs).toList = zs.map fun n => UInt8.ofNat n.toNat := by
  unfold bstr
  rw [bstr_fold]
  simp [ByteArray.toList_eq]
theorem bytes_inj : ∀ (a b : List Int), (∀ z ∈ a, 0 ≤ z ∧ z ≤ 255) → (∀ z ∈ b, 0 ≤ z ∧ z ≤ 255) → (a.map fun n => UInt8.ofNat n.toNat) = (b.map fun n => UInt8.ofNat n.toNat) → a = b
  | [], [], _, _, _ => rfl
  | [], _ :: _, _, _, h => by simp at h
  | _ :: _, [], _, _, h => by simp at h
  | x :: a, y :: b, ha, hb, h => by
    simp only [List.map_cons, List.cons.injEq] at h
    have hx := ha x List.mem_cons_self
    have hy := hb y List.mem_cons_self
    have h1 := congrArg UInt8.toNat h.1
    simp only [UInt8.toNat_ofNat'] at h1
    have e : x = y := by omega
    rw [e, bytes_inj a b (fun z hz => ha z (List.mem_cons_of_mem _ hz)) (fun z hz => hb z (List.mem_cons_of_mem _ hz)) h.2]
theorem bstr_inj {a b : List Int} (ha : ∀ z ∈ a, 0 ≤ z ∧ z ≤ 255) (hb : ∀ z ∈ b, 0 ≤ z ∧ z ≤ 255) (h : bstr a = bstr b) : a = b :=
  bytes_inj a b ha hb (by rw [← bstr_list, ← bstr_list, h])
/-- 'string(b)'. -/
theorem run_string_of_bytes {P : Program} {src dst e : TypeId} (hs : P.underlying src = some (.slice e)) (he : P.underlying e = some (.int .u8)) (hd : P.underlying dst = some .string) (A : Option Addr) (n c B : Nat) (zs : List Int) (w : World) (h : IntsAt .u8 w B A n zs) :
    (convert src dst (.slice A n c)).run P w = .ok (.string (bstr zs)) w := by
  rw [run_convert_bytes_string _ src dst e _ _ _ hs he hd]
  have hl := h.1
  cases A with
  | none =>
    have h0 : n = 0 := by
      rcases Nat.eq_zero_or_pos n with h0 | h0
      · exact h0
      · obtain ⟨ad, e, _⟩ := h.2 h0; cases e
    subst h0
    have : zs = [] := List.eq_nil_of_length_eq_zero hl
    subst this
    simp [Conv.bytesToString, bstr]
  | some ad =>
    refine run_bytesToString _ _ _ _ zs ?_
    have h2 := run_loadCells_list (P := P) w ad (zs.map (Value.int .u8)) (ints_news h)
    rw [List.length_map, hl] at h2
    exact h2
theorem cmp_slices (A : Option Addr) (n c B : Nat) (zs : List Int) (A2 : Option Addr) (n2 c2 B2 : Nat) (zs2 : List Int) (w : World) (h : IntsAt .i64 w B A n zs) (h2 : IntsAt .i64 w B2 A2 n2 zs2) (hn : n ≤ 4398046511104) (hn2 : n2 ≤ 4398046511104) :
    Calls Try.prog 83 #[.slice A n c, .slice A2 n2 c2] w fun e w' => e = .returned (.bool (decide (zs = zs2))) ∧ Below w.heap.size w w' := by
  have hl := h.1
  have hl2 := h2.1
  by_cases hne : n = n2
  · subst hne
    go_enter Try.func83, Try.ntmps83
    go_wp2
    go_loopw [13] (fun i wr => ∃ k : Nat, k ≤ n ∧ i = .int .i64 k ∧ zs.take k = zs2.take k ∧ Below w.heap.size w wr ∧ wr.heap = w.heap) (fun i _ => n - (intOf i).toNat)
    case atStart => exact ⟨0, Nat.zero_le _, rfl, by simp, Below.refl _ _, rfl⟩
    case round =>
      obtain ⟨k, hk, rfl, hsame, hbl, hheap⟩ := hrel
      by_cases hlt : k < n
      · obtain ⟨ad, rfl, hab, hcell⟩ := h.2 (by omega)
        obtain ⟨ad2, rfl, hab2, hcell2⟩ := h2.2 (by omega)
        have hc : wr.cell? (ad.add k) = _ := (World.cell?_of_block (by rw [hheap])).trans (hcell k hlt)
        have hc2 : wr.cell? (ad2.add k) = _ := (World.cell?_of_block (by rw [hheap])).trans (hcell2 k hlt)
        have HH := Lib.hid hheap
        clear hcell hcell2 hheap
        by_cases e : zs.getD k 0 = zs2.getD k 0
        · have HN := Lib.hid (same_step hsame (by omega) (by omega) e)
          clear hsame
          generalize zs.getD k 0 = z at *
          generalize zs2.getD k 0 = z2 at *
          subst e
          go_wp2
          go_quiet (fail)
          go_wp2
          go_roundw
          case rel => exact ⟨k + 1, by omega, by go_num, HN.out, belowN hbl _, HH.out⟩
          case measure => simp [intOf]; omega
        · have HN := Lib.hid (same_not e)
          have e' : (!(zs.getD k 0 == zs2.getD k 0)) = true := by simpa using e
          have e2 : (zs.getD k 0 != zs2.getD k 0) = true := by simpa using e
          clear hsame e
          generalize zs.getD k 0 = z at *
          generalize zs2.getD k 0 = z2 at *
          go_wp2
          go_quiet (fail)
          go_wp2
          go_ret
          exact ⟨by rw [HN.out]; rfl, belowN hbl _⟩
      · obtain rfl : k = n := by omega
        have HN := Lib.hid (same_all hsame hl hl2)
        clear hsame
        go_wp2
        go_ret
        exact ⟨by rw [HN.out]; rfl, hbl⟩
  · have HN : Hid (decide (zs = zs2) = false) := Lib.hid (by rw [decide_eq_false_iff_not]; rintro rfl; omega)
    go_enter Try.func83, Try.ntmps83
    go_wp2
    go_ret
    exact ⟨by rw [HN.out]; rfl, Below.refl _ _⟩
theorem sp_EqualInts (A : Option Addr) (n c : Nat) (zs : List Int) (A2 : Option Addr) (n2 c2 : Nat) (zs2 : List Int) (w : World) (h : Sl .i64 w A n c zs) (hs : n ≤ 1048576) (h2 : Sl .i64 w A2 n2 c2 zs2) (hs2 : n2 ≤ 1048576) (r : Bool) (hr : eqL zs zs2 = r) :
    Calls Try.prog 68 #[.slice A n c, .slice A2 n2 c2] w fun e w' => e = .returned (.bool r) ∧ Below w.heap.size w w' := (show decide (zs = zs2) = r from hr) ▸ spec_EqualInts A n c _ zs A2 n2 c2 _ zs2 w h.ints h2.ints (by omega) (by omega)
theorem im_EqualInts (A : Option Addr) (n c : Nat) (zs : List Int) (A2 : Option Addr) (n2 c2 : Nat) (zs2 : List Int) (w : World) (h : Sl .i64 w A n c zs) (hs : n ≤ 1048576) (h2 : Sl .i64 w A2 n2 c2 zs2) (hs2 : n2 ≤ 1048576) (r : Bool) (hr : eqL zs zs2 = r) :
    Calls Try.prog 72 #[.slice A n c, .slice A2 n2 c2] w fun e w' => e = .returned (.bool r) ∧ Below w.heap.size w w' := by
  go_enter Try.func72, Try.ntmps72
  go_wp2_with fail
  refine (cmp_slices A n c _ zs A2 n2 c2 _ zs2 _ h.ints h2.ints (by omega) (by omega)).mono ?_
  rw [show decide (zs = zs2) = r from hr]
  rintro e w1 ⟨rfl, hb⟩
  go_wp2
  go_ret
  exact ⟨rfl, hb⟩
end Go.Proofs.Ytgdficjihkglpaa
