/- Contracts of chapter 2's readers: the program's cursor. -/
import Derived.Test.YtekpopndjcdgiaaInts
import Derived.Test.YtekpopndjcdgiaaHelp
import Derived.Test.YtekpopndjcdgiaaVarR
import Derived.Laws.ResultCell
namespace Go.Proofs.Ytekpopndjcdgiaa
open Go.RowKit
set_option linter.unusedVariables false

/-- a cursor over these bytes lies in block g. -/
def CurAt (w : World) (g : Nat) (A : Option Addr) (n c q : Nat) : Prop := w.heap[g]? = some (.cells #[.slice A n c, .int .i64 q] 55 (0, 0))
theorem impl_cursorAt_no (A : Option Addr) (n c : Nat) (a : Int) (w : World) (hin : inB a 0 n = false) :
    Calls Try.prog 49 #[.slice A n c, .int .i64 a] w fun e w' => e = .returned (.tuple #[.agg #[.slice none 0 0, .int .i64 0], .bool false]) ∧ Below w.heap.size w w' := by
  have H1 := Lib.hid hin
  clear hin
  go_enter Try.func49, Try.ntmps49
  go_wp2_with (go_at_call 55; refine (impl_InRange _ _ _ _).mono ?_; rintro e w' ⟨rfl, rfl⟩; rw [H1.out])
  refine bodyPost_ret (v := .tuple #[.agg #[.slice none 0 0, .int .i64 0], .bool false]) (by rw [results_cell_tmp rfl]; go_simp) rfl ⟨rfl, ?_⟩
  exact (Below.refl _ _).alloc (Nat.le_refl _) _
theorem impl_cursorAt_yes (A : Option Addr) (n c q : Nat) (w : World) (hq : q ≤ n) :
    Calls Try.prog 49 #[.slice A n c, .int .i64 q] w fun e w' => e = .returned (.tuple #[.agg #[.slice A n c, .int .i64 q], .bool true]) ∧ Below w.heap.size w w' := by
  have H1 : Hid (inB (q : Int) 0 n = true) := Lib.hid (by simp [inB]; omega)
  go_enter Try.func49, Try.ntmps49
  go_wp2_with (go_at_call 55; refine (impl_InRange _ _ _ _).mono ?_; rintro e w' ⟨rfl, rfl⟩; rw [H1.out])
  refine bodyPost_ret (v := .tuple #[.agg #[.slice A n c, .int .i64 q], .bool true]) (by rw [results_cell_tmp rfl]; go_simp) rfl ⟨rfl, ?_⟩
  exact (Below.refl _ _).alloc (Nat.le_refl _) _
/-- what the cursor's readUvarint answers. -/
def curV : Option (Nat × Nat) → Value
  | none => .tuple #[.int .i64 0, .bool false]
  | some (m, _) => .tuple #[.int .i64 (m : Int), .bool true]
set_option maxRecDepth 100000 in
set_option maxHeartbeats 1000000 in
theorem cursor_readUvarint (g : Nat) (A : Option Addr) (n c B p : Nat) (zs : List Int) (w : World) (h : IntsAt .u8 w B A n zs) (hz : ∀ z ∈ zs, 0 ≤ z ∧ z ≤ 255) (hn : n ≤ 1099511627776) (hB : B ≤ g) (hp : p ≤ n) (hc : CurAt w g A n c p) :
    Calls Try.prog 50 #[.pointer (some ⟨g, 0, none⟩)] w fun e w' => e = .returned (curV (vrd zs 6 p 0)) ∧ w.grownBy w' (some g) ∧ (∀ m q, vrd zs 6 p 0 = some (m, q) → CurAt w' g A n c q) := by
  have hl := h.1
  have hgl := lt_of_block hc
  go_enter Try.func50, Try.ntmps50
  go_wp2
  go_loopw [4, 7] (fun x i wr => ∃ k m : Nat, k ≤ 6 ∧ i = .int .i64 k ∧ x = .int .i64 m ∧ m < 128 ^ k ∧ p + k ≤ n ∧ vrd zs 6 p 0 = vrd zs (6 - k) (p + k) m ∧ CurAt wr g A n c (p + k) ∧ w.grownBy wr (some g)) (fun _ i _ => 6 - (intOf i).toNat)
  case atStart => exact ⟨0, 0, by omega, rfl, rfl, by simp, hp, rfl, hc, World.grownBy.refl _ _⟩
  case round =>
    obtain ⟨k, m, hk, rfl, rfl, hm, hpn, hv, hcr, hbl⟩ := hrel
    have hsz := hbl.size
    have hg : wr.heap[g]? = _ := hcr
    have c0 : wr.cell? ⟨g, 0, none⟩ = some (.slice A n c) := by simp [World.cell?, hg]
    have c1 : wr.cell? ⟨g, 1, none⟩ = some (.int .i64 ((p + k : Nat) : Int)) := by simp [World.cell?, hg]
    have f0 : ∀ j, wr.frozen? ⟨g, j, none⟩ = false := fun j => by simp [World.frozen?, hg]
    have HG := Lib.hid hg
    have HBL := Lib.hid hbl
    clear hg hcr hc
    by_cases hlt : k < 6
    · by_cases hin : p + k < n
      · obtain ⟨ad, rfl, hab, hcell⟩ := h.2 (by omega)
        have hci := (World.cell?_of_block (hbl.block (ad.add (p + k)).block (by rw [add_block]; omega) (by rw [add_block]; intro e; injection e with e; omega))).trans (hcell (p + k) hin)
        have hzr : 0 ≤ zs.getD (p + k) 0 ∧ zs.getD (p + k) 0 ≤ 255 := by
          rw [List.getD_eq_getElem?_getD, List.getElem?_eq_getElem (by omega)]
          exact hz _ (List.getElem_mem _)
        obtain ⟨x, hx⟩ := Int.eq_ofNat_of_zero_le hzr.1
        rw [hx] at hci hzr
        have hx' : x < 256 := by omega
        obtain ⟨y, m', g2, g3, hmb, hmx, h00, hgood, hbad, hmore⟩ := vrd_round (by omega) hx hx' hlt hm
        have g1 : bits .and .u8 (x : Int) 127 = ((x % 128 : Nat) : Int) := and127u x hx'
        have HGo := Lib.hid hgood
        have HBa := Lib.hid hbad
        have HM := Lib.hid hmore
        have HV := Lib.hid hv
        have HMB := Lib.hid hmb
        have H00 := Lib.hid h00
        have hk5 : k ≤ 5 := by omega
        have g4 := and128u x hx'
        have HPN := Lib.hid hpn
        obtain ⟨r, hr⟩ : ∃ r, r = p + k := ⟨_, rfl⟩
        have HRr := Lib.hid hr
        rw [← hr] at c1 hci hin
        have b1 : ((r : Int) == (n : Int)) = false := by rw [beq_eq_false_iff_ne]; omega
        have HC : ∀ w2 : World, w2.heap[g]? = some (.cells #[.slice (some ad) n c, .int .i64 ((r + 1 : Nat) : Int)] 55 (0, 0)) → CurAt w2 g (some ad) n c (p + k + 1) := fun w2 h2 => by unfold CurAt; rw [← hr]; exact h2
        have HCC := Lib.hid HC
        rw [← hr] at HG
        have hnew : ∀ w2 : World, w2.heap[g]? = wr.heap[g]? → (w2.setCell ⟨g, 1, none⟩ (.int .i64 ((r : Int) + 1))).heap[g]? = some (.cells #[.slice (some ad) n c, .int .i64 ((r + 1 : Nat) : Int)] 55 (0, 0)) := fun w2 h2 => by
          rw [heap_set (h2.trans HG.out) 1 _]; simp
        have HN := Lib.hid hnew
        clear hcell hgood hbad hmore hm hv hmb hx h00 hbl hpn hr HC hnew
        by_cases h128 : x < 128
        · rw [if_pos h128] at g4
          by_cases hk0 : 0 < k
          · by_cases h0 : x = 0
            · have b0 : ((x : Int) == 0) = true := by simpa using h0
              have HR := Lib.hid (HV.out.trans (HBa.out h128 (.inl ⟨h0, hk0⟩)))
              clear h0
              go_wp2
              go_quiet (fail)
              go_wp2
              go_quiet (fail)
              go_wp2
              go_ret2
              exact ⟨by rw [HR.out]; rfl, only_setCell (only_drewN HBL.out _) _ _, fun m q hh => by rw [HR.out] at hh; cases hh⟩
            · have b0 : ((x : Int) == 0) = false := by simpa using h0
              by_cases hbig : 1000000000000 < m'
              · have HR := Lib.hid (HV.out.trans (HBa.out h128 (.inr hbig)))
                go_wp2
                go_quiet (fail)
                go_wp2
                go_quiet (fail)
                go_wp2
                go_ret2
                exact ⟨by rw [HR.out]; rfl, only_setCell (only_drewN HBL.out _) _ _, fun m q hh => by rw [HR.out] at hh; cases hh⟩
              · have HR := Lib.hid (HV.out.trans (HGo.out h128 (by omega)))
                go_wp2
                go_quiet (fail)
                go_wp2
                go_quiet (fail)
                go_wp2
                go_ret2
                refine ⟨by rw [HR.out]; rfl, only_setCell (only_drewN HBL.out _) _ _, fun m q hh => ?_⟩
                rw [HR.out] at hh
                injection hh with hh
                injection hh with hh1 hh2
                rw [← hh2]
                exact HCC.out _ (HN.out _ rfl)
          · have hk0' : k = 0 := by omega
            have hm0 : m' ≤ 128 := by have := HMB.out; rw [hk0'] at this; omega
            have HR := Lib.hid (HV.out.trans (HGo.out h128 (by omega)))
            clear hk0'
            go_wp2
            go_quiet (fail)
            go_wp2
            go_quiet (fail)
            go_wp2
            go_ret2
            refine ⟨by rw [HR.out]; rfl, only_setCell (only_drewN HBL.out _) _ _, fun m q hh => ?_⟩
            rw [HR.out] at hh
            injection hh with hh
            injection hh with hh1 hh2
            rw [← hh2]
            exact HCC.out _ (HN.out _ rfl)
        · rw [if_neg h128] at g4
          go_wp2
          go_quiet (fail)
          go_wp2
          go_quiet (fail)
          go_wp2
          go_roundw
          case rel => exact ⟨k + 1, m', by omega, by go_num, rfl, HMB.out, by have := HRr.out; omega, HV.out.trans (HM.out (by omega)), HCC.out _ (HN.out _ rfl), only_setCell (only_drewN HBL.out _) _ _⟩
          case measure => simp [intOf]; omega
      · have HR := Lib.hid (hv.trans (vrd_end (by omega)))
        have hpn' : ((p + k : Nat) : Int) = (n : Int) := by omega
        rw [hpn'] at c1
        have b1 : ((n : Int) == (n : Int)) = true := by simp
        clear hv hpn' hbl
        go_wp2
        go_quiet (fail)
        go_wp2
        go_ret2
        exact ⟨by rw [HR.out]; rfl, only_drewN HBL.out _, fun m q hh => by rw [HR.out] at hh; cases hh⟩
    · obtain rfl : k = 6 := by omega
      have HR := Lib.hid hv
      clear hv hbl
      go_wp2
      go_ret2
      exact ⟨by rw [HR.out]; rfl, HBL.out, fun m q hh => by rw [HR.out] at hh; cases hh⟩
end Go.Proofs.Ytekpopndjcdgiaa
