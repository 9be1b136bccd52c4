/- Contracts of chapter 2's readers of byte strings and lists: program and model. -/
import Derived.Test.YtekpopndjcdgiaaGet
import Derived.Test.YtekpopndjcdgiaaGet2
import Derived.Test.YtekpopndjcdgiaaMem
namespace Go.Proofs.Ytekpopndjcdgiaa
open Go.RowKit
set_option linter.unusedVariables false

theorem sub_byte {zs : List Int} {q m : Nat} (h : ∀ z ∈ zs, (Lit.int .u8 z).wf = true) : ∀ z ∈ (zs.drop q).take m, (Lit.int .u8 z).wf = true := fun z hz => h z (List.mem_of_mem_drop (List.mem_of_mem_take hz))
theorem spec_ReadBytes (A : Option Addr) (n c : Nat) (zs : List Int) (a most : Int) (w : World) (h : Sl .u8 w A n c zs) (r0 : List Int) (r1 : Int) (r2 : Bool) (hr : rdBytes zs a most = (r0, r1, r2)) :
    Calls Try.prog 33 #[.slice A n c, .int .i64 a, .int .i64 most] w fun e w' => ∃ v, e = .returned (.tuple #[v, .int .i64 r1, .bool r2]) ∧ Own .u8 5 w' w.heap.size v r0 ∧ Below w.heap.size w w' ∧ r0.length ≤ 4398046511104 := by
  have hl := h.len
  have hn := h.small
  cases hv : vget zs a with
  | none =>
    rw [rdBytes_none most hv] at hr
    have HV := Lib.hid (congrArg getV hv)
    injection hr with h1 hr
    injection hr with h2 h3
    subst h1; subst h2; subst h3
    clear hv
    go_enter Try.func33, Try.ntmps33
    go_wp2_with fail
    refine (spec_ReadUvarint A n c _ zs a _ h.ints h.u8 h.small).mono ?_
    rintro e w1 ⟨rfl, rfl⟩
    rw [HV.out]
    simp only [getV]
    go_wp2
    go_ret3
    exact ⟨_, rfl, own_bare _ _ _, (Below.refl _ _).alloc (Nat.le_refl _) _, by simp⟩
  | some mq =>
    obtain ⟨m, q⟩ := mq
    obtain ⟨hm, hq0, hq⟩ := vget_facts hv
    have HV := Lib.hid (congrArg getV hv)
    obtain ⟨hc1, hc2⟩ := h.cap
    unfold maxLen at hc2
    by_cases hb : most < (m : Int) ∨ (n : Int) - (q : Int) < (m : Int)
    · rw [rdBytes_bad hv (by omega)] at hr
      injection hr with h1 hr
      injection hr with h2 h3
      subst h1; subst h2; subst h3
      clear hv
      rcases (show (most < (m : Int)) ∨ (¬ most < (m : Int) ∧ (n : Int) - (q : Int) < (m : Int)) by omega) with hb | ⟨hb1, hb2⟩
      all_goals
        go_enter Try.func33, Try.ntmps33
        go_wp2_with fail
        refine (spec_ReadUvarint A n c _ zs a _ h.ints h.u8 h.small).mono ?_
        rintro e w1 ⟨rfl, rfl⟩
        rw [HV.out]
        simp only [getV]
        go_wp2
        go_ret3
        exact ⟨_, rfl, own_bare _ _ _, (Below.refl _ _).alloc (Nat.le_refl _) _, by simp⟩
    · rw [rdBytes_good hv (by omega)] at hr
      injection hr with h1 hr
      injection hr with h2 h3
      subst h1; subst h2; subst h3
      clear hv
      obtain ⟨ad, rfl, -, -⟩ := h.ints.2 (show 0 < n by omega)
      have hb1 : ¬ most < (m : Int) := by omega
      have hb2 : ¬ (n : Int) - (q : Int) < (m : Int) := by omega
      have hsub : ∀ A2 m', m' = m → (0 < m → A2 = some (ad.add q)) → IntsAt .u8 (w.alloc (.cells #[] 5)) w.heap.size A2 m' ((zs.drop q).take m) := by
        rintro A2 m' rfl hA2
        exact (h.ints.sub q m' (by omega) A2 hA2).keep fun p hp => World.cell?_of_block (Below.heap_alloc w _ _ hp)
      have HS := Lib.hid hsub
      have hlen : ((zs.drop q).take m).length ≤ 4398046511104 := by rw [List.length_take]; omega
      have HLE := Lib.hid hlen
      clear hsub hlen
      by_cases hcq : c = q
      · have hm0 : m = 0 := by omega
        have HM := Lib.hid hm0
        clear hm0
        subst hcq
        go_enter Try.func33, Try.ntmps33
        go_wp2_with fail
        refine (spec_ReadUvarint (some ad) n _ _ zs a _ h.ints h.u8 h.small).mono ?_
        rintro e w1 ⟨rfl, rfl⟩
        rw [HV.out]
        simp only [getV]
        go_wp2_with (at_builtin; refine wpList_app rfl _ _ 22 22 rfl .u8 5 5 1 Try.underlying22 Try.underlying22 info_u8 w.heap.size _ [] rfl (own_bare _ _ w) _ _ _ w.heap.size _ rfl (HS.out _ _ (by omega) (fun h0 => absurd HM.out (by omega))) (by simp) (by decide) (by simp; omega) (by simp) ?_; intro v1 w1 hown1 hgrow1 hat1)
        go_ret3
        exact ⟨v1, rfl, by simpa using hown1, (own_bare .u8 5 w).push (Nat.le_refl _) ((Below.refl _ _).alloc (Nat.le_refl _) _) (by simp) hgrow1, HLE.out⟩
      · have hq' : ¬ q = c := fun e => hcq e.symm
        go_enter Try.func33, Try.ntmps33
        go_wp2_with fail
        refine (spec_ReadUvarint (some ad) n _ _ zs a _ h.ints h.u8 h.small).mono ?_
        rintro e w1 ⟨rfl, rfl⟩
        rw [HV.out]
        simp only [getV]
        go_wp2_with (at_builtin; refine wpList_app rfl _ _ 22 22 rfl .u8 5 5 1 Try.underlying22 Try.underlying22 info_u8 w.heap.size _ [] rfl (own_bare _ _ w) _ _ _ w.heap.size _ rfl (HS.out _ _ (by omega) (fun _ => rfl)) (by simp) (by decide) (by simp; omega) (by simp) ?_; intro v1 w1 hown1 hgrow1 hat1)
        go_ret3
        exact ⟨v1, rfl, by simpa using hown1, (own_bare .u8 5 w).push (Nat.le_refl _) ((Below.refl _ _).alloc (Nat.le_refl _) _) (by simp) hgrow1, HLE.out⟩
end Go.Proofs.Ytekpopndjcdgiaa
