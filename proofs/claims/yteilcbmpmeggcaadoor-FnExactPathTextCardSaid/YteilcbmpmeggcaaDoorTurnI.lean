/- TurnOf: the program; its table of names. -/
import Derived.Test.YteilcbmpmeggcaaDoorPathI
import Derived.Test.YteilcbmpmeggcaaDoorLawLaid
import Derived.Lib.LaidTab
import Derived.Lib.SmallJoins
namespace Go.Proofs.YteilcbmpmeggcaaDoor
open Go.RowKit
set_option linter.unusedVariables false

/-- the variable's strings. -/
def Turns (w : World) : Prop := ∀ (i : Nat), i < 4 → w.cell? ⟨0, i, none⟩ = some (.string (turnN i))
theorem Turns.below {w w' : World} {B : Nat} (h : Turns w) (hb : Below B w w') (hB : w.heap.size ≤ B) : Turns w' := fun i hi => by
  have h1 := h i hi
  refine (World.cell?_of_block (hb.block 0 ?_)).trans h1
  refine Nat.lt_of_lt_of_le ?_ hB
  rcases Nat.lt_or_ge 0 w.heap.size with hl | hl
  · exact hl
  · simp [World.cell?, Array.getElem?_eq_none hl] at h1
theorem turns_global : Tryd.prog.globalNamed "loop.example/g03006/impl.turnNames" = some 0 := by kernel_rfl
theorem string_of_trod {H : Type} {enc : TypeId × Value → H} {P : Program} {w : World} {base : Nat} {sp : Nat → Bool} {held : Bool} {fuel : Nat} {t : TypeId} {cs : List Value} {l : List UInt8} {p : List MemPlace}
    (ht : P.underlying t = some .string) (h : DataW.trod enc P w base sp held fuel t cs = some (.lit (.string l), p)) : cs = [.string ⟨l.toArray⟩] := by
  obtain ⟨b, h1, h2, _⟩ := DataW.trod_string ht h
  simp only [Prod.mk.injEq, DataW.lit.injEq, Lit.string.injEq] at h2
  rw [h1, h2.1]
theorem cells_of_strs {H : Type} {enc : TypeId × Value → H} {P : Program} {w : World} {base : Nat} {sp : Nat → Bool} {held : Bool} {fuel : Nat} {t e : TypeId} {n : Nat} {cs : List Value} {ls : List (List UInt8)} {p : List MemPlace}
    (ht : P.underlying t = some (.array n e)) (he : P.underlying e = some .string) (hce : P.cellsOf e = 1) (hct : P.cellsOf t = n)
    (h : DataW.trod enc P w base sp held fuel t cs = some (.agg (ls.map fun l => .lit (.string l)), p)) : cs = ls.map fun l => Value.string ⟨l.toArray⟩ := by
  cases fuel with
  | zero => simp [DataW.trod] at h
  | succ fuel =>
    simp only [DataW.trod, ht, hce, hct, Nat.mul_one] at h
    split at h
    · rename_i hl
      obtain ⟨xs, hm, hx⟩ := Option.map_eq_some_iff.1 h
      have hxs : xs.map (·.1) = ls.map fun l => (DataW.lit (.string l) : DataW H) := by
        have := congrArg Prod.fst hx
        simpa using this
      have hxl : xs.length = n := by simpa using Lib.mapM_length hm
      have hzl : ls.length = n := by
        have := congrArg List.length hxs
        simp at this
        omega
      apply List.ext_getElem?
      intro i
      by_cases hi : i < n
      · obtain ⟨b, hb, hf⟩ := Lib.mapM_at hm i i (by simp [hi])
        have h2 : (xs.map (·.1))[i]? = some b.1 := by simp [hb]
        rw [hxs] at h2
        simp only [List.getElem?_map, Option.map_eq_some_iff] at h2
        obtain ⟨l, hl2, hl3⟩ := h2
        have hc := string_of_trod (l := l) (p := b.2) he (by rw [hf, hl3])
        have h1 : cs[i]? = some (.string ⟨l.toArray⟩) := by
          have := congrArg (·[0]?) hc
          simpa [List.getElem?_take, List.getElem?_drop] using this
        simp [h1, hl2]
      · rw [List.getElem?_eq_none (by omega), List.getElem?_eq_none (by simp; omega)]
    · cases h
theorem turns_of_laid {laid : List (String × DataW Unit)} {W : World} (hL : laidMetH Tryd.prog laid W)
    (e : (laid.filter fun x => x.1 == "loop.example/g03006/impl.turnNames") = [("loop.example/g03006/impl.turnNames", .agg [.lit (.string [119, 97, 108, 107]), .lit (.string [110, 101, 120, 116]), .lit (.string [111, 118, 101, 114]), .lit (.string [108, 97, 115, 116])])]) : Turns W := by
  have h := hL.filter fun x => x.1 == "loop.example/g03006/impl.turnNames"
  rw [e, MakeChecks.laidMetH_plain _ _ _ (by rfl)] at h
  obtain ⟨ps, ⟨g', t', cs, fuel, p, q, hg', ht', hvar, hd, _, _⟩, _⟩ := h
  obtain rfl := Option.some.inj (turns_global.symm.trans hg')
  obtain rfl := Option.some.inj ((show (Tryd.prog.globals[0]?).map (·.type) = some 71 by kernel_rfl).symm.trans ht')
  intro i hi
  have hc := World.var?_cell turns_global hvar i
  have hcs := cells_of_strs (ls := [[119, 97, 108, 107], [110, 101, 120, 116], [111, 118, 101, 114], [108, 97, 115, 116]]) Tryd.underlying71 Tryd.underlying9 (by kernel_rfl) (by kernel_rfl) hd
  obtain ⟨l⟩ := cs
  simp only at hcs
  subst hcs
  rw [hc]
  match i, hi with
  | 0, _ => rfl
  | 1, _ => rfl
  | 2, _ => rfl
  | 3, _ => rfl
theorem impl_TurnOf (p : Pth) (w : World) (ht : Turns w) : Calls Tryd.prog 13 #[p.val] w fun e w' => e = .returned (.string (turnS p)) ∧ Below w.heap.size w w' := by
  have HI : Hid (turnS p = if isP p then turnN (modI (p.to - p.frm) 4) else ⟨#[]⟩) := Lib.hid rfl
  have hr := isP_facts p
  have hcp := fun x => impl_pack p x
  have hno := fun h => packN_no (p := p) h
  have hyes := fun h => (packN_yes (p := p) h).2
  have hf := fun h => Lib.hid (packN_frm (p := p) h)
  have htt := fun h => Lib.hid (packN_to (p := p) h)
  generalize packN p = v at *
  have HT := Lib.hid ht
  clear ht
  obtain ⟨a, b, c, d⟩ := p
  simp only [Pth.val] at *
  go_enter Tryd.func13, Tryd.ntmps13
  go_wp2_with fail
  refine (hcp _).mono ?_
  rintro e w1 ⟨rfl, hb⟩
  have hb1 := ((Below.refl w.heap.size w).alloc (Nat.le_refl _) (.cells #[.int .i64 a, .int .i64 b, .int .i64 c, .int .i64 d] 25)).trans (hb.mono (by simp))
  have HB := Lib.hid hb1
  have HT1 := Lib.hid (HT.out.below hb1 (Nat.le_refl _))
  clear hb hb1 hcp
  cases hp : isP ⟨a, b, c, d⟩
  · rw [hp] at HI
    obtain rfl := hno hp
    clear hno hyes hf htt hr hp
    go_wp2
    go_ret
    exact ⟨by rw [HI.out]; rfl, HB.out⟩
  · rw [hp] at HI
    obtain ⟨v0, v1⟩ := hyes hp
    have gf := hf hp
    have gt := htt hp
    have vz : (v == 0) = false := by simp; omega
    obtain ⟨_, _, ⟨g1, g2⟩, ⟨g3, g4⟩, _⟩ := hr hp
    clear hno hyes hf htt hr hp
    have hm : 0 ≤ modI (d - c) 4 ∧ modI (d - c) 4 < 4 := by unfold modI; rw [if_pos (by decide)]; omega
    obtain ⟨m, hm1⟩ : ∃ m : Nat, modI (d - c) 4 = m := ⟨(modI (d - c) 4).toNat, by omega⟩
    have HM := Lib.hid hm1
    have hm4 : m < 4 := by omega
    have hcell := HT1.out m hm4
    rw [hm1] at HI
    have HC := Lib.hid HI
    clear hm1 hm HI
    go_wp2_with (first
      | (go_at_call 59; refine (impl_to v _ (by omega) (by omega)).mono ?_; rintro e w1 ⟨rfl, rfl⟩; rw [gt.out])
      | (go_at_call 58; refine (impl_from v _ (by omega) (by omega)).mono ?_; rintro e w1 ⟨rfl, rfl⟩; rw [gf.out])
      | (go_at_call 60; refine (impl_Mod _ _ _).mono ?_; rintro e w1 ⟨rfl, rfl⟩; rw [HM.out]))
    go_ret
    exact ⟨by rw [HC.out.out]; rfl, HB.out⟩
end Go.Proofs.YteilcbmpmeggcaaDoor
