/- Chapter 20: AreStreets: program and model. -/
import Derived.Test.YtdgpodopkfnpeabInts
import Derived.Test.YtdgpodopkfnpeabStt
namespace Go.Proofs.Ytdgpodopkfnpeab
open Go.RowKit
set_option linter.unusedVariables false

def sttA (zs : List Stt) (k : Nat) : Stt := zs.getD k ⟨0, 0, 0⟩
theorem sttA_some {zs : List Stt} {k : Nat} {x : Stt} (h : zs[k]? = some x) : sttA zs k = x := by unfold sttA; rw [List.getD_eq_getElem?_getD, h]; rfl
def stOk (x : Stt) : Bool := inB x.frm 1 8 && (inB x.to 1 8 && (decide (x.frm ≠ x.to) && inB x.secs 1 300))
def besT (y x : Stt) : Bool := decide (y.frm = x.frm) && decide (y.to = x.to)
/-- whether the k-th street is a street, and none before it is beside it. -/
def goodS (zs : List Stt) (k : Nat) : Bool := stOk (sttA zs k) && !((zs.take k).any fun y => besT y (sttA zs k))
/-- what AreStreets answers. -/
def areS (zs : List Stt) : Bool := decide (zs.length ≤ 16) && (List.range zs.length).all (goodS zs)
theorem areS_no {zs : List Stt} {k : Nat} (hk : k < zs.length) (h : goodS zs k = false) : areS zs = false := by
  unfold areS
  rw [List.all_eq_false.2 ⟨k, List.mem_range.2 hk, by rw [h]; simp⟩, Bool.and_false]
theorem areS_end {zs : List Stt} (h : ∀ i, i < zs.length → goodS zs i = true) : areS zs = decide (zs.length ≤ 16) := by
  unfold areS
  rw [List.all_eq_true.2 (fun i hi => h i (List.mem_range.1 hi)), Bool.and_true]
theorem areS_long {zs : List Stt} (h : 16 < zs.length) : areS zs = false := by unfold areS; rw [decide_eq_false (by omega), Bool.false_and]
theorem goodS_bad {zs : List Stt} {k : Nat} {x : Stt} (hx : zs[k]? = some x) (h : stOk x = false) : goodS zs k = false := by unfold goodS; rw [sttA_some hx, h, Bool.false_and]
theorem goodS_ok {zs : List Stt} {k : Nat} {x : Stt} (hx : zs[k]? = some x) (h : stOk x = true) : goodS zs k = !((zs.take k).any fun y => besT y x) := by unfold goodS; rw [sttA_some hx, h, Bool.true_and]
theorem stOk1 {x : Stt} (h : inB x.frm 1 8 = false) : stOk x = false := by unfold stOk; rw [h, Bool.false_and]
theorem stOk2 {x : Stt} (h : inB x.to 1 8 = false) : stOk x = false := by unfold stOk; rw [h, Bool.false_and, Bool.and_false]
theorem stOk3 {x : Stt} (h : x.frm = x.to) : stOk x = false := by unfold stOk; rw [decide_eq_false (by simpa using h), Bool.false_and, Bool.and_false, Bool.and_false]
theorem stOk4 {x : Stt} (h : inB x.secs 1 300 = false) : stOk x = false := by unfold stOk; rw [h, Bool.and_false, Bool.and_false, Bool.and_false]
theorem stOk5 {x : Stt} (h1 : inB x.frm 1 8 = true) (h2 : inB x.to 1 8 = true) (h3 : x.frm ≠ x.to) (h4 : inB x.secs 1 300 = true) : stOk x = true := by unfold stOk; rw [h1, h2, h4, decide_eq_true h3]; rfl
set_option maxHeartbeats 4000000 in
theorem spec_AreStreets (A : Option Addr) (n c B : Nat) (zs : List Stt) (w : World) (h : SttsAt w B A n zs) (hB : B ≤ w.heap.size) (hn : n ≤ 4294967296) :
    Calls Try.prog 24 #[.slice A n c] w fun e w' => e = .returned (.bool (areS zs)) ∧ Below w.heap.size w w' := by
  have hl := h.1
  have HEND : Hid ((∀ i, i < n → goodS zs i = true) → areS zs = decide (n ≤ 16)) := Lib.hid (fun hg => by rw [areS_end (fun i hi => hg i (by omega)), hl])
  have HNO : Hid (∀ i, i < n → goodS zs i = false → areS zs = false) := Lib.hid (fun i hi hg => areS_no (by omega) hg)
  clear hl
  go_enter Try.func24, Try.ntmps24
  go_wp2
  go_loopw [3] (fun i wr => ∃ k : Nat, k ≤ n ∧ i = .int .i64 k ∧ (∀ j, j < k → goodS zs j = true) ∧ Below w.heap.size w wr) (fun i _ => n - (intOf i).toNat)
  case atStart => exact ⟨0, Nat.zero_le _, rfl, fun j hj => absurd hj (by omega), Below.refl _ _⟩
  case round =>
    obtain ⟨k, hk, rfl, hgo, hbl⟩ := hrel
    have hsz := hbl.size
    have HG := Lib.hid hgo
    clear hgo
    by_cases hlt : k < n
    · obtain ⟨ad, x, rfl, hab, hx, hq⟩ := h.at hlt
      obtain ⟨c0, c1, c2⟩ := hq.below hbl (by omega)
      have i1 : (0 : Int) ≤ (k : Int) := by omega
      have i2 : (k : Int) < (n : Int) := by omega
      have HX := Lib.hid hx
      have HBA := Lib.hid (hbl.alloc hsz (.cells #[.int .i64 x.frm, .int .i64 x.to, .int .i64 x.secs] 101))
      have HA : Hid (stOk x = false → areS zs = false) := Lib.hid (fun e => HNO.out k hlt (goodS_bad hx e))
      clear hx hq
      cases h1 : inB x.frm 1 8
      · have HR := Lib.hid (HA.out (stOk1 h1))
        have H1 := Lib.hid h1
        clear h1 HA
        go_wp2_with (go_at_call 60; refine (spec_l1In _ _ _ _).mono ?_; rintro e w' ⟨rfl, rfl⟩; rw [H1.out])
        go_ret
        exact ⟨by rw [HR.out]; rfl, HBA.out⟩
      cases h2 : inB x.to 1 8
      · have HR := Lib.hid (HA.out (stOk2 h2))
        have H1 := Lib.hid h1
        have H2 := Lib.hid h2
        clear h1 h2 HA
        go_wp2_with (go_at_call 60; refine (spec_l1In _ _ _ _).mono ?_; rintro e w' ⟨rfl, rfl⟩; first | rw [H1.out] | rw [H2.out])
        go_ret
        exact ⟨by rw [HR.out]; rfl, HBA.out⟩
      by_cases h3 : x.frm = x.to
      · have HR := Lib.hid (HA.out (stOk3 h3))
        have e3 : (x.frm == x.to) = true := by simpa using h3
        have H1 := Lib.hid h1
        have H2 := Lib.hid h2
        clear h1 h2 h3 HA
        go_wp2_with (go_at_call 60; refine (spec_l1In _ _ _ _).mono ?_; rintro e w' ⟨rfl, rfl⟩; first | rw [H1.out] | rw [H2.out])
        go_ret
        exact ⟨by rw [HR.out]; rfl, HBA.out⟩
      have e3 : (x.frm == x.to) = false := by simpa using h3
      cases h4 : inB x.secs 1 300
      · have HR := Lib.hid (HA.out (stOk4 h4))
        have H1 := Lib.hid h1
        have H2 := Lib.hid h2
        have H4 := Lib.hid h4
        clear h1 h2 h3 h4 HA
        go_wp2_with (go_at_call 60; refine (spec_l1In _ _ _ _).mono ?_; rintro e w' ⟨rfl, rfl⟩; first | rw [H1.out] | rw [H2.out] | rw [H4.out])
        go_ret
        exact ⟨by rw [HR.out]; rfl, HBA.out⟩
      have HO := Lib.hid (goodS_ok HX.out (stOk5 h1 h2 h3 h4))
      have H1 := Lib.hid h1
      have H2 := Lib.hid h2
      have H4 := Lib.hid h4
      clear h1 h2 h3 h4 HA
      go_wp2_with (go_at_call 60; refine (spec_l1In _ _ _ _).mono ?_; rintro e w' ⟨rfl, rfl⟩; first | rw [H1.out] | rw [H2.out] | rw [H4.out])
      clear c0 c1 c2 e3
      have HD := Lib.hid (show ∀ wq, Below (wr.heap.size + 1) (wr.alloc (.cells #[.int .i64 x.frm, .int .i64 x.to, .int .i64 x.secs] 101)) wq → wq.cell? ⟨wr.heap.size, 0, none⟩ = some (.int .i64 x.frm) ∧ wq.cell? ⟨wr.heap.size, 1, none⟩ = some (.int .i64 x.to) from fun wq hb => ⟨(hb.cell (p := ⟨wr.heap.size, 0, none⟩) (by simp only; omega)).trans (by go_simp), (hb.cell (p := ⟨wr.heap.size, 1, none⟩) (by simp only; omega)).trans (by go_simp)⟩)
      go_loopw [5] (fun i wq => ∃ m : Nat, m ≤ k ∧ i = .int .i64 m ∧ ((zs.take m).any fun y => besT y x) = false ∧ Below (wr.heap.size + 1) (wr.alloc (.cells #[.int .i64 x.frm, .int .i64 x.to, .int .i64 x.secs] 101)) wq) (fun i _ => k - (intOf i).toNat)
      case atStart => exact ⟨0, Nat.zero_le _, rfl, rfl, Below.refl _ _⟩
      case round =>
        obtain ⟨m, hm, rfl, hno, hb2⟩ := hrel
        have HN := Lib.hid hno
        obtain ⟨d0, d1⟩ := HD.out _ hb2
        have HBQ := Lib.hid (HBA.out.trans (hb2.mono (by omega)))
        clear hno
        by_cases hlt2 : m < k
        · obtain ⟨ad2, y, e, hab2, hy, hqy⟩ := h.at (k := m) (by omega)
          injection e with e
          subst e
          obtain ⟨b0, b1, b2⟩ := hqy.below HBQ.out (by omega)
          have j1 : (0 : Int) ≤ (m : Int) := by omega
          have j2 : (m : Int) < (n : Int) := by omega
          have HS := Lib.hid (show ((zs.take (m + 1)).any fun y => besT y x) = besT y x by rw [List.take_add_one, hy, List.any_append, HN.out]; simp)
          have HP : Hid (besT y x = true → areS zs = false) := Lib.hid (fun e => HNO.out k hlt (by
            rw [HO.out, Bool.not_eq_false']
            refine List.any_eq_true.2 ⟨y, ?_, e⟩
            refine List.mem_of_getElem? (i := m) ?_
            rw [List.getElem?_take, if_pos hlt2, hy]))
          clear hy hqy
          by_cases hf : y.frm = x.frm
          · by_cases ht : y.to = x.to
            · have HR := Lib.hid (HP.out (by unfold besT; rw [decide_eq_true hf, decide_eq_true ht]; rfl))
              have e1 : (y.frm == x.frm) = true := by simpa using hf
              have e2 : (y.to == x.to) = true := by simpa using ht
              clear hf ht HS HP
              go_wp2
              go_quiet (fail)
              go_wp2
              go_ret
              exact ⟨by rw [HR.out]; rfl, belowN HBQ.out _⟩
            · have HR := Lib.hid (HS.out.trans (show besT y x = false by unfold besT; rw [decide_eq_false ht, Bool.and_false]))
              have e1 : (y.frm == x.frm) = true := by simpa using hf
              have e2 : (y.to == x.to) = false := by simpa using ht
              clear hf ht HS HP
              go_wp2
              go_quiet (fail)
              go_wp2
              go_roundw
              case rel => exact ⟨m + 1, by omega, by go_num, HR.out, belowN hb2 _⟩
              case measure => simp [intOf]; omega
          · have HR := Lib.hid (HS.out.trans (show besT y x = false by unfold besT; rw [decide_eq_false hf, Bool.false_and]))
            have e1 : (y.frm == x.frm) = false := by simpa using hf
            clear hf HS HP
            go_wp2
            go_quiet (fail)
            go_wp2
            go_roundw
            case rel => exact ⟨m + 1, by omega, by go_num, HR.out, belowN hb2 _⟩
            case measure => simp [intOf]; omega
        · obtain rfl : m = k := by omega
          have HR : Hid (goodS zs m = true) := Lib.hid (by rw [HO.out, HN.out]; rfl)
          have HG2 : Hid (∀ j, j < m + 1 → goodS zs j = true) := Lib.hid (fun j hj => by
            by_cases e : j = m
            · subst e; exact HR.out
            · exact HG.out j (by omega))
          go_wp2
          go_roundw
          case rel => exact ⟨m + 1, by omega, by go_num, HG2.out, HBQ.out⟩
          case measure => simp [intOf]; omega
    · obtain rfl : k = n := by omega
      have HR := Lib.hid (HEND.out HG.out)
      by_cases h16 : k ≤ 16
      · have e1 : ((k : Int) ≤ 16) := by omega
        go_wp2
        go_ret
        exact ⟨by rw [HR.out, decide_eq_true h16]; rfl, hbl⟩
      · have e1 : ¬ ((k : Int) ≤ 16) := by omega
        go_wp2
        go_ret
        exact ⟨by rw [HR.out, decide_eq_false h16]; rfl, hbl⟩
end Go.Proofs.Ytdgpodopkfnpeab
