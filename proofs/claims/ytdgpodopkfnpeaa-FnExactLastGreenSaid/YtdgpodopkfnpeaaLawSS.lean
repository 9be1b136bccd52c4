/- A law's arguments that are rows of rows of numbers. -/
import Derived.Test.YtdgpodopkfnpeaaLawPth
import Derived.Test.YtdgpodopkfnpeaaSSM
namespace Go.Proofs.Ytdgpodopkfnpeaa
open Go.ChangeShapes Go.WideShapes Go.ChangeAt Go.RowKit Go.Joins
open Go.Deep (oneCellFields open_slice open_slice1 hone_of)

section
variable {H : Type} {enc : TypeId × Value → H} {P : Program}
/-- A slice of slices of numbers that came in. -/
theorem arg_intss {t s e : TypeId} {W : World} {base : Nat} {v : Value} {d : DataW H} {ps : List MemPlace} (ht : P.underlying t = some (.slice s)) (hs : P.underlying s = some (.slice e)) (he : P.underlying e = some (.int .i64)) (hc : P.cellsOf s = 1) (hce : P.cellsOf e = 1)
    (hval : Value.okWide P W .any base t v) (hd : DataW.Trod enc P W 0 (fun _ => true) true t v d ps) (hlt : ∀ x ∈ ps, x.block < W.heap.size) :
    ∃ (A : Option Addr) (n c : Nat) (zss : List (List Int)), v = .slice A n c ∧ (SSAt W W.heap.size A n zss ∧ (∀ zs ∈ zss, zs.length ≤ maxLen ∧ ∀ z ∈ zs, (Lit.int .i64 z).wf = true) ∧ n ≤ c ∧ c ≤ maxLen) := by
  obtain ⟨a, len, cap, rfl⟩ := okWide_slice ht hval
  obtain ⟨fuel, hf⟩ := hd
  rcases open_slice1 ht hc hf with ⟨h1, _⟩ | ⟨a', len', cap', m, q, V, D, Pl, hcs, _, hl, hm, hmm, hx, hi⟩
  · have h1' : [Value.slice a len cap] = [Value.slice none 0 0] := h1
    simp only [List.cons.injEq, and_true] at h1'
    exact ⟨none, 0, 0, [], h1', ⟨rfl, fun h => absurd h (by omega)⟩, by simp, Nat.le_refl _, Nat.zero_le _⟩
  · have h1' : [Value.slice a len cap] = [Value.slice (some a') len' cap'] := hcs
    simp only [List.cons.injEq, and_true] at h1'
    rw [if_pos rfl] at hmm
    subst hmm
    have hps : ps = MemPlace.row a' m ++ (List.range m).flatMap Pl := congrArg Prod.snd hx
    obtain ⟨zss, hzl, hz⟩ := choose_upto (n := len') (R := fun i (zs : List Int) => zs.length ≤ maxLen ∧ (∀ z ∈ zs, (Lit.int .i64 z).wf = true) ∧ ∃ A' m' c', W.cell? (a'.add i) = some (.slice A' m' c') ∧ IntsAt .i64 W W.heap.size A' m' zs ∧ m' ≤ c' ∧ (A' = none → m' = 0 ∧ c' = 0)) (fun i hil => by
      obtain ⟨hcell, htr⟩ := hi i (by omega)
      rcases open_ints hs he hce htr with ⟨h2, _⟩ | ⟨b, l2, cp2, zs, h2, _, hl2, hm2, hzl2, hx2, hc2, hwf2⟩
      · simp only [List.cons.injEq, and_true] at h2
        exact ⟨[], Nat.zero_le _, by simp, none, 0, 0, by rw [hcell, h2], ⟨rfl, fun h => absurd h (by omega)⟩, Nat.le_refl _, fun _ => ⟨rfl, rfl⟩⟩
      · simp only [List.cons.injEq, and_true] at h2
        rw [if_pos rfl] at hzl2
        refine ⟨zs.take l2, by rw [List.length_take]; omega, fun z hzm => hwf2 z (List.mem_of_mem_take hzm), some b, l2, cp2, by rw [hcell, h2], ⟨by simp; omega, fun hn => ⟨b, rfl, ?_, fun j hj => ?_⟩⟩, hl2, by simp⟩
        · have hmem : MemPlace.cell b.block (b.off + 0) ∈ ps := by
            rw [hps]
            refine List.mem_append_right _ (List.mem_flatMap.2 ⟨i, List.mem_range.2 (by omega), ?_⟩)
            have e2 : Pl i = MemPlace.row b zs.length := congrArg Prod.snd hx2
            rw [e2]
            exact List.mem_map.2 ⟨0, List.mem_range.2 (by omega), rfl⟩
          exact hlt _ hmem
        · rw [hc2 j (by omega)]
          simp [List.getD_eq_getElem?_getD, hj])
    have hzg : ∀ j, j < len' → zss[j]? = some (zss.getD j []) := fun j hj => by
      rw [List.getElem?_eq_getElem (by omega), List.getD_eq_getElem?_getD, List.getElem?_eq_getElem (by omega)]
      rfl
    refine ⟨some a', len', m, zss, h1', ⟨hzl, fun hn => ⟨a', rfl, ?_, fun j hj => ?_⟩⟩, fun zs hzm => ?_, hl, hm⟩
    · have hmem : MemPlace.cell a'.block (a'.off + 0) ∈ ps := by
        rw [hps]
        exact List.mem_append_left _ (List.mem_map.2 ⟨0, List.mem_range.2 (by omega), rfl⟩)
      exact hlt _ hmem
    · exact (hz j _ (hzg j hj)).2.2
    · obtain ⟨j, hj, rfl⟩ := List.getElem_of_mem hzm
      have := hz j _ (List.getElem?_eq_getElem hj)
      exact ⟨this.1, this.2.1⟩
end
end Go.Proofs.Ytdgpodopkfnpeaa
