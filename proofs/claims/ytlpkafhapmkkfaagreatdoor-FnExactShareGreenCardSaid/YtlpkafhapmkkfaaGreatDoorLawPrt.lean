/- A law's arguments that are rows of parts. -/
import Derived.Test.YtlpkafhapmkkfaaGreatDoorBndlG
namespace Go.Proofs.YtlpkafhapmkkfaaGreatDoor
open Go.ChangeShapes Go.WideShapes Go.ChangeAt Go.RowKit Go.Joins
open Go.Deep (oneCellFields open_slice hone_of)

section
variable {H : Type} {enc : TypeId × Value → H} {P : Program}
/-- A slice of parts that came in. -/
theorem arg_prts {t e i : TypeId} {f0 f1 : Field} {W : World} {base : Nat} {v : Value} {d : DataW H} {ps : List MemPlace} (ht : P.underlying t = some (.slice e)) (he : P.underlying e = some (.struct #[f0, f1])) (hone : oneCellFields P #[f0, f1] = true) (hC : P.cellsOf e = 2)
    (h0 : P.underlying f0.type = some (.slice i)) (hi : P.underlying i = some (.int .i64)) (hci : P.cellsOf i = 1) (h1 : P.underlying f1.type = some (.int .i64))
    (hval : Value.okWide P W .any base t v) (hd : DataW.Trod enc P W 0 (fun _ => true) true t v d ps) (hlt : ∀ x ∈ ps, x.block < W.heap.size) :
    ∃ (A : Option Addr) (n c : Nat) (zs : List Prt), v = .slice A n c ∧ (PrtsAt W W.heap.size A n zs ∧ (∀ z ∈ zs, z.wf) ∧ n ≤ c ∧ c ≤ maxLen) := by
  obtain ⟨a, len, cap, rfl⟩ := okWide_slice ht hval
  obtain ⟨fuel, hf⟩ := hd
  rcases open_slice_fields ht he hone (by rw [hC]; rfl) hf with ⟨h1, _⟩ | ⟨a', len', cap', m, D, Pl, hcs, _, hl, hm, hmm, hx, hii⟩
  · have h1' : [Value.slice a len cap] = [Value.slice none 0 0] := h1
    simp only [List.cons.injEq, and_true] at h1'
    exact ⟨none, 0, 0, [], h1', ⟨rfl, fun h => absurd h (by omega)⟩, by simp, Nat.le_refl _, Nat.zero_le _⟩
  · have h1' : [Value.slice a len cap] = [Value.slice (some a') len' cap'] := hcs
    simp only [List.cons.injEq, and_true] at h1'
    rw [if_pos rfl] at hmm
    subst hmm
    have hps : ps = MemPlace.row a' (m * 2) ++ (List.range m).flatMap Pl := congrArg Prod.snd hx
    obtain ⟨zs, hzl, hz⟩ := choose_upto (n := len') (R := fun j (p : Prt) => p.wf ∧ ∃ A' m' c', PrtAt W (a'.add (j * 2)) (.slice A' m' c') p.green ∧ IntsAt .i64 W W.heap.size A' m' p.stage ∧ (m' ≤ c' ∧ c' ≤ maxLen) ∧ (A' = none → m' = 0 ∧ c' = 0)) (fun j hjl => by
      obtain ⟨ys, n, _, hPl, _, hj⟩ := hii j (by omega)
      obtain ⟨v0, y0, c0, g0, t0⟩ := hj 0 f0 rfl
      obtain ⟨v1, y1, c1, _, t1⟩ := hj 1 f1 rfl
      obtain ⟨x1, rfl, w1, -⟩ := cell_int h1 t1
      have c1' : W.cell? ⟨(a'.add (j * 2)).block, (a'.add (j * 2)).off + 1, none⟩ = some (.int .i64 x1) := by
        rw [← add_plus _ 1 (by decide), add_add]
        exact c1
      rcases open_ints h0 hi hci t0 with ⟨h2, _⟩ | ⟨b, l2, cp2, zs, h2, _, hl2, hm2, hzl2, hx2, hc2, hwf2⟩
      · simp only [List.cons.injEq, and_true] at h2
        exact ⟨⟨[], x1⟩, ⟨Nat.zero_le _, by simp, w1⟩, none, 0, 0, ⟨by rw [← h2]; exact c0, c1'⟩, ⟨rfl, fun h => absurd h (by omega)⟩, ⟨Nat.le_refl _, Nat.zero_le _⟩, fun _ => ⟨rfl, rfl⟩⟩
      · simp only [List.cons.injEq, and_true] at h2
        rw [if_pos rfl] at hzl2
        refine ⟨⟨zs.take l2, x1⟩, ⟨by simp only [List.length_take]; omega, fun z hzm => hwf2 z (List.mem_of_mem_take hzm), w1⟩, some b, l2, cp2, ⟨by rw [← h2]; exact c0, c1'⟩, ⟨by simp only [List.length_take]; omega, fun hn => ⟨b, rfl, ?_, fun q hq => ?_⟩⟩, ⟨hl2, hm2⟩, by simp⟩
        · have hmem : MemPlace.cell b.block (b.off + 0) ∈ ps := by
            rw [hps]
            refine List.mem_append_right _ (List.mem_flatMap.2 ⟨j, List.mem_range.2 (by omega), ?_⟩)
            rw [hPl]
            refine List.mem_flatMap.2 ⟨y0, List.mem_of_getElem? g0, ?_⟩
            have e2 : y0.2 = MemPlace.row b zs.length := congrArg Prod.snd hx2
            rw [e2]
            exact List.mem_map.2 ⟨0, List.mem_range.2 (by omega), rfl⟩
          exact hlt _ hmem
        · rw [hc2 q (by omega)]
          simp [List.getD_eq_getElem?_getD, hq])
    refine ⟨some a', len', m, zs, h1', ⟨hzl, fun hn => ⟨a', rfl, ?_, fun j hj => ?_⟩⟩, fun z hzm => ?_, hl, hm⟩
    · have hmem : MemPlace.cell a'.block (a'.off + 0) ∈ ps := by
        rw [hps]
        exact List.mem_append_left _ (List.mem_map.2 ⟨0, List.mem_range.2 (by omega), rfl⟩)
      exact hlt _ hmem
    · exact (hz j _ (prAt_get (by omega))).2
    · obtain ⟨j, hj, rfl⟩ := List.getElem_of_mem hzm
      exact (hz j _ (List.getElem?_eq_getElem hj)).1
end
end Go.Proofs.YtlpkafhapmkkfaaGreatDoor
