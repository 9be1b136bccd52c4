/- Texts of one chain, put together: Cen Crypt Hash RcdB Seal Lkd RcdI RcdM Ade Equal Nte LawAde LawEnt. -/
import Derived.Deep.RegionHeld3
import Derived.Lib.AppendZeros
import Derived.Test.YtlpkafhapmkkfaaBndlB
set_option linter.unusedSimpArgs false
/- Copies of entries: l27Copy of the model, copyEntries of the program (written by gencen.py). -/
set_option linter.unusedSimpArgs false
namespace Go.Proofs.Ytlpkafhapmkkfaa
open Go.RowKit
set_option linter.unusedVariables false

theorem below_drewE {a w : World} (h : Below a.heap.size a w) : Below a.heap.size a w.drew := ⟨h.os, h.tape, h.output, h.size, h.block⟩
theorem own_rowE (w : World) (E : TypeId) (s : Nat) : (w.alloc (.cells #[] E)).ownsRow w.heap.size E s (.slice (some ⟨w.heap.size, 0, none⟩) 0 0) 0 [] := ⟨by simp, .inr ⟨w.heap.size, 0, #[], rfl, Nat.le_refl _, heap_alloc_new w _, Nat.le_refl _, by decide, by simp, by simp⟩⟩
theorem eachE_snoc {w' : World} {lo : Nat} {xs : List (Value × Ent)} {ps : List Ent} {k : Nat} {u : Value} (hul : xs.length = k) (hold : ∀ j, j < k → ∃ u, xs[j]? = some (u, entA ps j) ∧ Own .i64 3 w' lo u (entA ps j).lights) (hnew : Own .i64 3 w' lo u (entA ps k).lights) {g : Ent} (hg : entA ps k = g) :
    ∀ j, j < k + 1 → ∃ u', (xs ++ [(u, g)])[j]? = some (u', entA ps j) ∧ Own .i64 3 w' lo u' (entA ps j).lights := by
  intro j hj
  by_cases hjk : j < k
  · obtain ⟨u, h1, h2⟩ := hold j hjk
    exact ⟨u, by rw [List.getElem?_append_left (by omega)]; exact h1, h2⟩
  · obtain rfl : j = xs.length := by omega
    refine ⟨u, (List.getElem?_append_right (Nat.le_refl _)).trans (by rw [Nat.sub_self, show xs.length = k from hul, hg]; rfl), ?_⟩
    rw [show xs.length = k from hul]
    exact hnew
theorem apartE_snoc {w : World} {lo b : Nat} {xs : List (Value × Ent)} {ps : List Ent} {k : Nat} {u : Value} {g : Ent} (hul : xs.length = k) (hap : ApartL (xs.map (·.1))) (hold : ∀ j, j < k → ∃ u, xs[j]? = some (u, entA ps j) ∧ Own .i64 3 w lo u (entA ps j).lights) (hb : w.heap.size ≤ b) (hn : ∀ r, u.ownBlock = some r → b ≤ r) : ApartL ((xs ++ [(u, g)]).map (·.1)) := by
  rw [List.map_append]
  refine hap.snoc (b := b) (fun x hx r hr => ?_) hn
  obtain ⟨y, hy, rfl⟩ := List.mem_map.1 hx
  obtain ⟨j, hj, rfl⟩ := List.getElem_of_mem hy
  obtain ⟨u', h1, h2⟩ := hold j (by omega)
  rw [List.getElem?_eq_getElem hj] at h1
  injection h1 with h1
  rw [h1] at hr
  have := (h2.block r hr).2
  omega
theorem cells3E {w : World} {g : Nat} {x0 x1 x2 : Value} {E : TypeId} {fr : Nat × Nat} (h : w.heap[g]? = some (.cells #[x0, x1, x2] E fr)) : w.cell? ⟨g, 0, none⟩ = some x0 ∧ w.cell? ⟨g, 1, none⟩ = some x1 ∧ w.cell? ⟨g, 2, none⟩ = some x2 :=
  ⟨(cell_of_row w g 0 _ _ _ h).trans rfl, (cell_of_row w g 1 _ _ _ h).trans rfl, (cell_of_row w g 2 _ _ _ h).trans rfl⟩
set_option maxHeartbeats 4000000 in
set_option maxRecDepth 100000 in
theorem spec_l27Copy (A : Option Addr) (n c B : Nat) (ps : List Ent) (w : World) (h : EntsAt w B A n ps) (hB : B ≤ w.heap.size) (hn : n ≤ 1048576) (hm : ∀ j, j < n → (entA ps j).lights.length ≤ 1048576) :
    Calls Try.prog 57 #[.slice A n c] w fun e w' => ∃ v xs, e = .returned v ∧ OwnEnt w' w.heap.size v xs ps ∧ Below w.heap.size w w' := by
  have hl := h.1
  have HL := Lib.hid hl
  have H := Lib.hid h
  have HM := Lib.hid hm
  have hmx : Try.prog.follows .mixedOrders = true := by kernel_rfl
  have hr0 := own_rowE w 84 3
  have hb0 : Below w.heap.size w (w.alloc (.cells #[] 84)) := (Below.refl _ _).alloc (Nat.le_refl _) _
  clear h hm hl
  go_enter Try.func57, Try.ntmps57
  go_wp2
  go_loopw [3, 4] (fun v i wr => ∃ (k : Nat) (xs : List (Value × Ent)), k ≤ n ∧ xs.length = k ∧ i = .int .i64 k ∧ wr.ownsRow w.heap.size 84 3 v k (entrow xs) ∧ (∀ j, j < k → ∃ u, xs[j]? = some (u, entA ps j) ∧ Own .i64 3 wr w.heap.size u (entA ps j).lights) ∧ ApartL (xs.map (·.1)) ∧ Below w.heap.size w wr) (fun _ i _ => n - (intOf i).toNat)
  case atStart => exact ⟨0, [], Nat.zero_le _, rfl, rfl, by simpa [entrow] using hr0, fun j hj => absurd hj (by omega), ApartL.nil, hb0⟩
  case round =>
    clear hr0 hb0
    obtain ⟨k, xs, hk, hul, rfl, hrow, heach, hap, hbl⟩ := hrel
    have hsz := hbl.size
    obtain ⟨Av, cv, rfl⟩ := ownr_sliced hrow
    have HRW := Lib.hid hrow
    have HE := Lib.hid heach
    have HAP := Lib.hid hap
    have HBL := Lib.hid hbl
    have HUL := Lib.hid hul
    clear hrow heach hap hbl hul
    by_cases hlt : k < n
    · obtain ⟨ad, A', m, c', rfl, hab, hq, hi, hmc, hnil⟩ := H.out.at hlt
      have hpq := hq.below HBL.out (by omega)
      have hml := hi.1
      have hmk := HM.out k hlt
      have HQ := Lib.hid (fun (W : World) (hW : Below wr.heap.size wr W) => (hpq.below hW (by rw [add_block] at hab ⊢; have := HBL.out.size; omega)))
      have HI := Lib.hid (fun (W : World) (hW : Below w.heap.size w W) => hi.keep (w' := W) (fun p hp => hW.cell (by omega)))
      clear hq hi hpq
      obtain ⟨en, hen⟩ : ∃ en, entA ps k = en := ⟨_, rfl⟩
      rw [hen] at hml hmk HI HQ
      have HEN := Lib.hid hen
      clear hen
      obtain ⟨zs, hzs⟩ : ∃ zs, en.lights = zs := ⟨_, rfl⟩
      rw [hzs] at hml hmk HI
      have HZS := Lib.hid hzs
      clear hzs
      have hqd := HQ.out wr.drew (below_drewE (Below.refl _ _))
      have hmm : m ≤ 1048576 := by omega
      clear hml
      have i1 : (0 : Int) ≤ (k : Int) := by omega
      have i2 : (k : Int) < (n : Int) := by omega
      go_wp2
      refine wp_region_held_drew (S := fun W' => EntAt W' (ad.add (k * 3)) (.slice A' m c') en) hmx hqd (fun hH => ?_)
      refine wpAnyH_take (i := 0) (v := .slice Av k cv) rfl (by kernel_rfl) (by kernel_rfl) (by kernel_rfl) (fun _ _ _ h => h) (Or.inl ⟨by rfl, by intro W' hSw; go_simp⟩) hH ?_
      try simp only [Act.put, List.setIfInBounds_toArray, List.set_cons_zero, List.set_cons_succ]
      refine wpAnyH_take (i := 1) (v := .slice (some ad) n c) rfl (by kernel_rfl) (by kernel_rfl) (by kernel_rfl) (fun _ _ _ h => h) (Or.inl ⟨by rfl, by intro W' hSw; go_simp⟩) hH ?_
      try simp only [Act.put, List.setIfInBounds_toArray, List.set_cons_zero, List.set_cons_succ]
      refine wpAnyH_take (i := 2) (v := .int .i64 (k : Int)) rfl (by kernel_rfl) (by kernel_rfl) (by kernel_rfl) (fun _ _ _ h => h) (Or.inl ⟨by rfl, by intro W' hSw; go_simp⟩) hH ?_
      try simp only [Act.put, List.setIfInBounds_toArray, List.set_cons_zero, List.set_cons_succ]
      refine wpAnyH_take (i := 3) (v := .pointer (some (ad.add (k * 3)))) rfl (by kernel_rfl) (by kernel_rfl) (by kernel_rfl) (fun _ _ _ h => h) (Or.inl ⟨by rfl, by intro W' hSw; go_simp⟩) hH ?_
      try simp only [Act.put, List.setIfInBounds_toArray, List.set_cons_zero, List.set_cons_succ]
      refine wpAnyH_take (i := 4) (v := .pointer (some (ad.add (k * 3)))) rfl (by kernel_rfl) (by kernel_rfl) (by kernel_rfl) (fun _ _ _ h => h) (Or.inl ⟨by rfl, by intro W' hSw; go_simp⟩) hH ?_
      try simp only [Act.put, List.setIfInBounds_toArray, List.set_cons_zero, List.set_cons_succ]
      refine wpAnyH_take (i := 5) (v := .int .i64 en.second) rfl (by kernel_rfl) (by kernel_rfl) (by kernel_rfl) (fun _ _ _ h => h) (Or.inl ⟨by rfl, by intro W' hSw; obtain ⟨q0, q1, q2⟩ := hSw; go_simp⟩) hH ?_
      try simp only [Act.put, List.setIfInBounds_toArray, List.set_cons_zero, List.set_cons_succ]
      refine wpAnyH_take (i := 7) (v := .slice (some ad) n c) rfl (by kernel_rfl) (by kernel_rfl) (by kernel_rfl) (fun _ _ _ h => h) (Or.inl ⟨by rfl, by intro W' hSw; go_simp⟩) hH ?_
      try simp only [Act.put, List.setIfInBounds_toArray, List.set_cons_zero, List.set_cons_succ]
      refine wpAnyH_take (i := 8) (v := .int .i64 (k : Int)) rfl (by kernel_rfl) (by kernel_rfl) (by kernel_rfl) (fun _ _ _ h => h) (Or.inl ⟨by rfl, by intro W' hSw; go_simp⟩) hH ?_
      try simp only [Act.put, List.setIfInBounds_toArray, List.set_cons_zero, List.set_cons_succ]
      refine wpAnyH_take (i := 9) (v := .pointer (some (ad.add (k * 3)))) rfl (by kernel_rfl) (by kernel_rfl) (by kernel_rfl) (fun _ _ _ h => h) (Or.inl ⟨by rfl, by intro W' hSw; go_simp⟩) hH ?_
      try simp only [Act.put, List.setIfInBounds_toArray, List.set_cons_zero, List.set_cons_succ]
      refine wpAnyH_take (i := 10) (v := .pointer (some ⟨(ad.add (k * 3)).block, (ad.add (k * 3)).off + 1, none⟩)) rfl (by kernel_rfl) (by kernel_rfl) (by kernel_rfl) (fun _ _ _ h => h) (Or.inl ⟨by rfl, by intro W' hSw; go_simp⟩) hH ?_
      try simp only [Act.put, List.setIfInBounds_toArray, List.set_cons_zero, List.set_cons_succ]
      refine wpAnyH_take (i := 11) (v := .slice A' m c') rfl (by kernel_rfl) (by kernel_rfl) (by kernel_rfl) (fun _ _ _ h => h) (Or.inl ⟨by rfl, by intro W' hSw; obtain ⟨q0, q1, q2⟩ := hSw; go_simp⟩) hH ?_
      try simp only [Act.put, List.setIfInBounds_toArray, List.set_cons_zero, List.set_cons_succ]
      refine wpAnyH_take (i := 13) (v := .slice (some ad) n c) rfl (by kernel_rfl) (by kernel_rfl) (by kernel_rfl) (fun _ _ _ h => h) (Or.inl ⟨by rfl, by intro W' hSw; go_simp⟩) hH ?_
      try simp only [Act.put, List.setIfInBounds_toArray, List.set_cons_zero, List.set_cons_succ]
      refine wpAnyH_take (i := 14) (v := .int .i64 (k : Int)) rfl (by kernel_rfl) (by kernel_rfl) (by kernel_rfl) (fun _ _ _ h => h) (Or.inl ⟨by rfl, by intro W' hSw; go_simp⟩) hH ?_
      try simp only [Act.put, List.setIfInBounds_toArray, List.set_cons_zero, List.set_cons_succ]
      refine wpAnyH_take (i := 15) (v := .pointer (some (ad.add (k * 3)))) rfl (by kernel_rfl) (by kernel_rfl) (by kernel_rfl) (fun _ _ _ h => h) (Or.inl ⟨by rfl, by intro W' hSw; go_simp⟩) hH ?_
      try simp only [Act.put, List.setIfInBounds_toArray, List.set_cons_zero, List.set_cons_succ]
      refine wpAnyH_take (i := 16) (v := .pointer (some ⟨(ad.add (k * 3)).block, (ad.add (k * 3)).off + 2, none⟩)) rfl (by kernel_rfl) (by kernel_rfl) (by kernel_rfl) (fun _ _ _ h => h) (Or.inl ⟨by rfl, by intro W' hSw; go_simp⟩) hH ?_
      try simp only [Act.put, List.setIfInBounds_toArray, List.set_cons_zero, List.set_cons_succ]
      refine wpAnyH_take (i := 17) (v := .int .i64 en.mac) rfl (by kernel_rfl) (by kernel_rfl) (by kernel_rfl) (fun _ _ _ h => h) (Or.inl ⟨by rfl, by intro W' hSw; obtain ⟨q0, q1, q2⟩ := hSw; go_simp⟩) hH ?_
      try simp only [Act.put, List.setIfInBounds_toArray, List.set_cons_zero, List.set_cons_succ]
      refine wpAnyH_ready (rs := [6]) (by decide +kernel) (by simp) (AllReadyH.cons rfl (fun K' hK => ?_) AllReadyH.nil)
      go_simp
      obtain ⟨w2, hw2⟩ : ∃ w2, w2 = (wr.alloc (.cells #[] 3)).drew := ⟨_, rfl⟩
      have hb2 : Below wr.heap.size wr w2 := by rw [hw2]; exact below_drewE ((Below.refl _ _).alloc (Nat.le_refl _) _)
      have ho2 : Own .i64 3 w2 wr.heap.size (.slice (some ⟨wr.heap.size, 0, none⟩) 0 0) [] := by rw [hw2]; exact own_hollow (heap_alloc_new wr _) (Nat.le_refl _)
      have hs2 : wr.heap.size ≤ w2.heap.size := hb2.size
      rw [← hw2]
      clear hw2
      have hI2 := HI.out w2 (HBL.out.trans (hb2.mono hsz))
      refine hK.out _ _ (HQ.out _ hb2) (fun _ => ?_)
      clear hK K'
      try simp only [Act.put, List.setIfInBounds_toArray, List.set_cons_zero, List.set_cons_succ]
      refine wpAnyH_ready (rs := [12]) (by decide +kernel) (by simp) (AllReadyH.cons rfl (fun K' hK => ?_) AllReadyH.nil)
      refine step_app rfl _ _ 22 rfl .i64 3 8 Try.underlying22 info_i64 wr.heap.size _ [] rfl ho2 A' m c' _ zs rfl hI2 hnil (by decide) (by simp only [List.length_nil]; omega) hs2 ?_
      intro v3 w3 hown3 hgrow3
      rw [List.nil_append] at hown3
      obtain ⟨A3, c3, rfl⟩ := hown3.sliced
      have hb3 : Below wr.heap.size wr w3 := ho2.push (Nat.le_refl _) hb2 hs2 hgrow3
      have hs3 := hb3.size
      have HOW3 := Lib.hid hown3
      have HB3 := Lib.hid hb3
      clear ho2 hI2 hgrow3 hb2 hown3
      refine hK.out _ _ (HQ.out _ HB3.out) (fun _ => ?_)
      clear hK K'
      try simp only [Act.put, List.setIfInBounds_toArray, List.set_cons_zero, List.set_cons_succ]
      refine wpAnyH_take (i := 18) (v := .agg #[.int .i64 en.second, .slice A3 zs.length c3, .int .i64 en.mac]) rfl (by kernel_rfl) (by kernel_rfl) (by kernel_rfl) (fun _ _ _ h => h) (Or.inl ⟨by rfl, by intro W' hSw; go_simp⟩) (HQ.out _ HB3.out) ?_
      try simp only [Act.put, List.setIfInBounds_toArray, List.set_cons_zero, List.set_cons_succ]
      refine wpAnyH_ready (rs := [19]) (by decide +kernel) (by simp) (AllReadyH.cons rfl (fun K' hK => ?_) AllReadyH.nil)
      go_simp
      obtain ⟨w4, hw4⟩ : ∃ w4, w4 = w3.alloc (.cells #[.int .i64 en.second, .slice A3 zs.length c3, .int .i64 en.mac] 84) := ⟨_, rfl⟩
      obtain ⟨hk4, hz4, hba⟩ := one_block hw4
      have hb4 := HB3.out.trans (hba.mono hs3)
      have HB4 := Lib.hid hb4
      have HO4 := Lib.hid (HOW3.out.below hba)
      have HC4 : Hid (∀ (j : Nat) x, [.int .i64 en.second, .slice A3 zs.length c3, .int .i64 en.mac][j]? = some x → w4.cell? ⟨w3.heap.size, j, none⟩ = some x) := Lib.hid (fun j x hx => (cell_of_row _ _ j _ _ _ hk4).trans (by simpa using hx))
      have HR4 := Lib.hid (ownr_below HRW.out hb4)
      have hlo4 : w.heap.size ≤ w4.heap.size := by have := hb4.size; omega
      have h34 : w3.heap.size ≤ w4.heap.size := hba.size
      rw [← hw4]
      have hone : ∀ u ∈ [Value.int .i64 en.second, Value.slice A3 zs.length c3, Value.int .i64 en.mac], u.oneCell' = true := by
        intro u hu
        simp only [List.mem_cons, List.not_mem_nil, or_false] at hu
        rcases hu with rfl | rfl | rfl <;> rfl
      clear hw4 hk4 hz4 hba hb4
      refine hK.out _ _ (HQ.out _ HB4.out) (fun _ => ?_)
      clear hK K'
      try simp only [Act.put, List.setIfInBounds_toArray, List.set_cons_zero, List.set_cons_succ]
      refine wpAnyH_ready (rs := [20]) (by decide +kernel) (by simp) (AllReadyH.cons rfl (fun K' hK => ?_) AllReadyH.nil)
      refine step_appR1 rfl _ _ 35 rfl 84 (.agg #[.int .i64 0, .slice none 0 0, .int .i64 0]) 3 40 Try.underlying35 info_ent rfl (by decide) (by decide) w.heap.size (.slice Av k cv) k _ rfl HR4.out (by omega) [.int .i64 en.second, .slice A3 zs.length c3, .int .i64 en.mac] rfl hone w3.heap.size hlo4 rfl HC4.out ?_
      intro v5 w5 hown5 hgrow5
      have hkept : ∀ {x : Value} {ys : List Int} {l : Nat}, Own .i64 3 w4 l x ys → Own .i64 3 w5 l x ys := fun hx => hx.grown hgrow5 (fun q e h' => own_apart_ent hx HR4.out q e h'.symm.symm)
      have HBW := Lib.hid (ownr_push HR4.out (Nat.le_refl w.heap.size) (HBL.out.trans (HB4.out.mono hsz)) hlo4 hgrow5)
      have HR5 : Hid (w5.ownsRow w.heap.size 84 3 v5 (k + 1) (entrow (xs ++ [(.slice A3 zs.length c3, en)]))) := Lib.hid (by rw [entrow_append]; exact hown5)
      have HE5 : Hid (∀ j, j < k + 1 → ∃ u, (xs ++ [(.slice A3 zs.length c3, en)])[j]? = some (u, entA ps j) ∧ Own .i64 3 w5 w.heap.size u (entA ps j).lights) := Lib.hid (eachE_snoc (w' := w5) HUL.out (fun j hj => by
        obtain ⟨u, h1, h2⟩ := HE.out j hj
        exact ⟨u, h1, hkept (h2.below HB4.out)⟩) (by rw [HEN.out, HZS.out]; exact hkept (HO4.out.mono hsz)) HEN.out)
      have HA5 : Hid (ApartL ((xs ++ [(Value.slice A3 zs.length c3, en)]).map (·.1))) := Lib.hid (apartE_snoc HUL.out HAP.out HE.out (Nat.le_refl _) (fun r hr => (HOW3.out.block r hr).1))
      have HU5 : Hid ((xs ++ [(Value.slice A3 zs.length c3, en)]).length = k + 1) := Lib.hid (by rw [List.length_append, HUL.out]; rfl)
      have hQ5 : EntAt w5 (ad.add (k * 3)) (.slice A' m c') en := (HQ.out w4 HB4.out).keep (hgrow5.block _ (by rw [add_block] at hab ⊢; have := HBL.out.size; omega) (fun e => by rw [add_block] at hab e; have := (ownr_block HR4.out _ e.symm).1; omega))
      clear hown5 hgrow5 hkept
      refine hK.out _ _ hQ5 (fun _ => ?_)
      clear hK K'
      try simp only [Act.put, List.setIfInBounds_toArray, List.set_cons_zero, List.set_cons_succ]
      refine wpAnyH_ready (rs := [21]) (by decide +kernel) (by simp) (AllReadyH.cons rfl (fun K' hK => ?_) AllReadyH.nil)
      go_simp
      refine hK.out _ _ hQ5 (fun _ => ?_)
      clear hK K'
      try simp only [Act.put, List.setIfInBounds_toArray, List.set_cons_zero, List.set_cons_succ]
      refine wpAnyH_done (by decide +kernel) ?_ _
      go_wp2
      go_roundw
      case rel => exact ⟨k + 1, xs ++ [(.slice A3 zs.length c3, en)], by omega, HU5.out, by go_num, HR5.out, HE5.out, HA5.out, HBW.out⟩
      case measure => simp [intOf]; omega
    · obtain rfl : k = n := by omega
      have HO : Hid (OwnEnt wr w.heap.size (.slice Av k cv) xs ps) := Lib.hid ⟨by rw [HL.out]; exact HRW.out, fun j hj => HE.out j (by rw [← HL.out]; exact hj), HAP.out⟩
      go_wp2
      go_ret
      exact ⟨_, xs, rfl, HO.out, HBL.out⟩
set_option maxHeartbeats 4000000 in
set_option maxRecDepth 100000 in
theorem impl_copyEntries1 (g : Nat) (ad : Addr) (n c B k : Nat) (A' : Option Addr) (m c' : Nat) (en : Ent) (w : World) (hc : w.cell? ⟨g, 0, none⟩ = some (.slice (some ad) n c)) (hg : g < w.heap.size) (hq : EntAt w (ad.add (k * 3)) (.slice A' m c') en) (hab : (ad.add (k * 3)).block < w.heap.size) (hi : IntsAt .i64 w B A' m en.lights) (hB : B ≤ w.heap.size) (hnil : A' = none → m = 0 ∧ c' = 0) (hn : n ≤ 4294967296) (hk : k < n) (hm : m ≤ 1048576) :
    Calls Try.prog 105 #[.int .i64 k, .pointer (some ⟨g, 0, none⟩)] w fun e w' => ∃ A3 c3, e = .returned (.agg #[.int .i64 en.second, .slice A3 en.lights.length c3, .int .i64 en.mac]) ∧ Own .i64 3 w' w.heap.size (.slice A3 en.lights.length c3) en.lights ∧ Below w.heap.size w w' := by
  have hmx : Try.prog.follows .mixedOrders = true := by kernel_rfl
  obtain ⟨wA, hwA⟩ : ∃ wA, wA = w.alloc (.cells #[.int .i64 0, .slice none 0 0, .int .i64 0] 84) := ⟨_, rfl⟩
  obtain ⟨hk0, hsz, hBl⟩ := one_block hwA
  have hq1 := hq.below hBl hab
  have hcw := (hBl.cell (p := ⟨g, 0, none⟩) hg).trans hc
  have HI := Lib.hid (fun (x : World) (hx : Below w.heap.size w x) => hi.keep (w' := x) (fun p hp => hx.cell (Nat.lt_of_lt_of_le hp hB)))
  have HB := Lib.hid (below_drewE hBl)
  have HK := Lib.hid hk0
  have hS : wA.drew.cell? ⟨g, 0, none⟩ = some (.slice (some ad) n c) ∧ EntAt wA.drew (ad.add (k * 3)) (.slice A' m c') en := ⟨hcw, hq1.keep rfl⟩
  have HSS := Lib.hid (fun (x : World) (hx : Below wA.heap.size wA x) => (⟨(hx.cell (p := ⟨g, 0, none⟩) (show g < wA.heap.size by omega)).trans hcw, hq1.below hx (by omega)⟩ : x.cell? ⟨g, 0, none⟩ = some (.slice (some ad) n c) ∧ EntAt x (ad.add (k * 3)) (.slice A' m c') en))
  have i1 : (0 : Int) ≤ (k : Int) := by omega
  have i2 : (k : Int) < (n : Int) := by omega
  have lA : w.heap.size < wA.heap.size := by omega
  obtain ⟨zs, hzs⟩ : ∃ zs, en.lights = zs := ⟨_, rfl⟩
  rw [hzs] at HI
  have HZS := Lib.hid hzs
  clear hk0 hBl hq hq1 hi hc hcw hsz hzs
  go_enter Try.func105, Try.ntmps105
  go_wp2
  rw [← hwA]
  clear hwA
  refine wp_region_held_drew (S := fun W' => W'.cell? ⟨g, 0, none⟩ = some (.slice (some ad) n c) ∧ EntAt W' (ad.add (k * 3)) (.slice A' m c') en) hmx hS (fun hH => ?_)
  refine wpAnyH_take (i := 0) (v := .slice (some ad) n c) rfl (by kernel_rfl) (by kernel_rfl) (by kernel_rfl) (fun _ _ _ h => h) (Or.inl ⟨by rfl, by intro W' hSw; obtain ⟨qc, q0, q1, q2⟩ := hSw; go_simp⟩) hH ?_
  try simp only [Act.put, List.setIfInBounds_toArray, List.set_cons_zero, List.set_cons_succ]
  refine wpAnyH_take (i := 1) (v := .int .i64 (k : Int)) rfl (by kernel_rfl) (by kernel_rfl) (by kernel_rfl) (fun _ _ _ h => h) (Or.inl ⟨by rfl, by intro W' hSw; go_simp⟩) hH ?_
  try simp only [Act.put, List.setIfInBounds_toArray, List.set_cons_zero, List.set_cons_succ]
  refine wpAnyH_take (i := 2) (v := .pointer (some (ad.add (k * 3)))) rfl (by kernel_rfl) (by kernel_rfl) (by kernel_rfl) (fun _ _ _ h => h) (Or.inl ⟨by rfl, by intro W' hSw; go_simp⟩) hH ?_
  try simp only [Act.put, List.setIfInBounds_toArray, List.set_cons_zero, List.set_cons_succ]
  refine wpAnyH_take (i := 3) (v := .pointer (some (ad.add (k * 3)))) rfl (by kernel_rfl) (by kernel_rfl) (by kernel_rfl) (fun _ _ _ h => h) (Or.inl ⟨by rfl, by intro W' hSw; go_simp⟩) hH ?_
  try simp only [Act.put, List.setIfInBounds_toArray, List.set_cons_zero, List.set_cons_succ]
  refine wpAnyH_take (i := 4) (v := .int .i64 en.second) rfl (by kernel_rfl) (by kernel_rfl) (by kernel_rfl) (fun _ _ _ h => h) (Or.inl ⟨by rfl, by intro W' hSw; obtain ⟨qc, q0, q1, q2⟩ := hSw; go_simp⟩) hH ?_
  try simp only [Act.put, List.setIfInBounds_toArray, List.set_cons_zero, List.set_cons_succ]
  refine wpAnyH_take (i := 5) (v := .slice (some ad) n c) rfl (by kernel_rfl) (by kernel_rfl) (by kernel_rfl) (fun _ _ _ h => h) (Or.inl ⟨by rfl, by intro W' hSw; obtain ⟨qc, q0, q1, q2⟩ := hSw; go_simp⟩) hH ?_
  try simp only [Act.put, List.setIfInBounds_toArray, List.set_cons_zero, List.set_cons_succ]
  refine wpAnyH_take (i := 6) (v := .int .i64 (k : Int)) rfl (by kernel_rfl) (by kernel_rfl) (by kernel_rfl) (fun _ _ _ h => h) (Or.inl ⟨by rfl, by intro W' hSw; go_simp⟩) hH ?_
  try simp only [Act.put, List.setIfInBounds_toArray, List.set_cons_zero, List.set_cons_succ]
  refine wpAnyH_take (i := 7) (v := .pointer (some (ad.add (k * 3)))) rfl (by kernel_rfl) (by kernel_rfl) (by kernel_rfl) (fun _ _ _ h => h) (Or.inl ⟨by rfl, by intro W' hSw; go_simp⟩) hH ?_
  try simp only [Act.put, List.setIfInBounds_toArray, List.set_cons_zero, List.set_cons_succ]
  refine wpAnyH_take (i := 8) (v := .pointer (some ⟨(ad.add (k * 3)).block, (ad.add (k * 3)).off + 1, none⟩)) rfl (by kernel_rfl) (by kernel_rfl) (by kernel_rfl) (fun _ _ _ h => h) (Or.inl ⟨by rfl, by intro W' hSw; go_simp⟩) hH ?_
  try simp only [Act.put, List.setIfInBounds_toArray, List.set_cons_zero, List.set_cons_succ]
  refine wpAnyH_take (i := 9) (v := .slice A' m c') rfl (by kernel_rfl) (by kernel_rfl) (by kernel_rfl) (fun _ _ _ h => h) (Or.inl ⟨by rfl, by intro W' hSw; obtain ⟨qc, q0, q1, q2⟩ := hSw; go_simp⟩) hH ?_
  try simp only [Act.put, List.setIfInBounds_toArray, List.set_cons_zero, List.set_cons_succ]
  refine wpAnyH_take (i := 11) (v := .slice (some ad) n c) rfl (by kernel_rfl) (by kernel_rfl) (by kernel_rfl) (fun _ _ _ h => h) (Or.inl ⟨by rfl, by intro W' hSw; obtain ⟨qc, q0, q1, q2⟩ := hSw; go_simp⟩) hH ?_
  try simp only [Act.put, List.setIfInBounds_toArray, List.set_cons_zero, List.set_cons_succ]
  refine wpAnyH_take (i := 12) (v := .int .i64 (k : Int)) rfl (by kernel_rfl) (by kernel_rfl) (by kernel_rfl) (fun _ _ _ h => h) (Or.inl ⟨by rfl, by intro W' hSw; go_simp⟩) hH ?_
  try simp only [Act.put, List.setIfInBounds_toArray, List.set_cons_zero, List.set_cons_succ]
  refine wpAnyH_take (i := 13) (v := .pointer (some (ad.add (k * 3)))) rfl (by kernel_rfl) (by kernel_rfl) (by kernel_rfl) (fun _ _ _ h => h) (Or.inl ⟨by rfl, by intro W' hSw; go_simp⟩) hH ?_
  try simp only [Act.put, List.setIfInBounds_toArray, List.set_cons_zero, List.set_cons_succ]
  refine wpAnyH_take (i := 14) (v := .pointer (some ⟨(ad.add (k * 3)).block, (ad.add (k * 3)).off + 2, none⟩)) rfl (by kernel_rfl) (by kernel_rfl) (by kernel_rfl) (fun _ _ _ h => h) (Or.inl ⟨by rfl, by intro W' hSw; go_simp⟩) hH ?_
  try simp only [Act.put, List.setIfInBounds_toArray, List.set_cons_zero, List.set_cons_succ]
  refine wpAnyH_take (i := 15) (v := .int .i64 en.mac) rfl (by kernel_rfl) (by kernel_rfl) (by kernel_rfl) (fun _ _ _ h => h) (Or.inl ⟨by rfl, by intro W' hSw; obtain ⟨qc, q0, q1, q2⟩ := hSw; go_simp⟩) hH ?_
  try simp only [Act.put, List.setIfInBounds_toArray, List.set_cons_zero, List.set_cons_succ]
  refine wpAnyH_ready (rs := [10]) (by decide +kernel) (by simp) (AllReadyH.cons rfl (fun K' hK => ?_) AllReadyH.nil)
  go_simp
  refine (lib_Clone2 A' m c' wA.drew.heap.size zs wA.drew ((HI.out _ HB.out).up (by have := HB.out.size; omega)) (Nat.le_refl _) hnil (by omega)).mono ?_
  rintro e w2 ⟨v3, rfl, ho2, hb2⟩
  obtain ⟨A3, c3, rfl⟩ := ho2.sliced
  have hk2 := (hb2.block _ (show w.heap.size < wA.drew.heap.size from lA)).trans HK.out
  have HS2 := Lib.hid (HSS.out w2 (below_undrew hb2))
  have HB2 := Lib.hid (HB.out.trans (hb2.mono HB.out.size))
  have HO2 := Lib.hid ho2
  have HK2 := Lib.hid hk2
  clear hb2 ho2 hk2
  go_wp2_with fail
  refine hK.out _ _ HS2.out (fun _ => ?_)
  clear hK K'
  try simp only [Act.put, List.setIfInBounds_toArray, List.set_cons_zero, List.set_cons_succ]
  refine wpAnyH_take (i := 16) (v := .agg #[.int .i64 en.second, .slice A3 zs.length c3, .int .i64 en.mac]) rfl (by kernel_rfl) (by kernel_rfl) (by kernel_rfl) (fun _ _ _ h => h) (Or.inl ⟨by rfl, by intro W' hSw; go_simp⟩) HS2.out ?_
  try simp only [Act.put, List.setIfInBounds_toArray, List.set_cons_zero, List.set_cons_succ]
  refine wpAnyH_ready (rs := [17]) (by decide +kernel) (by simp) (AllReadyH.cons rfl (fun K' hK => ?_) AllReadyH.nil)
  obtain ⟨z0, z1, z2⟩ := cells3E HK2.out
  have fz : ∀ j, w2.frozen? ⟨w.heap.size, j, none⟩ = false := fun j => frozen_of_row _ _ j _ _ HK2.out
  have lz := lt_of_block HK2.out
  go_simp
  obtain ⟨w3, hw3⟩ : ∃ w3, w3 = ((w2.setCell ⟨w.heap.size, 0, none⟩ (.int .i64 en.second)).setCell ⟨w.heap.size, 1, none⟩ (.slice A3 zs.length c3)).setCell ⟨w.heap.size, 2, none⟩ (.int .i64 en.mac) := ⟨_, rfl⟩
  have hst : w3.heap[w.heap.size]? = some (.cells #[.int .i64 en.second, .slice A3 zs.length c3, .int .i64 en.mac] 84 (0, 0)) := by rw [hw3]; exact stored3 HK2.out
  have hbw : Below w.heap.size w w3 := by rw [hw3]; exact ((HB2.out.setCell (Nat.le_refl _) _).setCell (Nat.le_refl _) _).setCell (Nat.le_refl _) _
  have how : Own .i64 3 w3 w.heap.size (.slice A3 zs.length c3) zs := by rw [hw3]; exact (HO2.out.grown (only_setCell (only_setCell (only_setCell (World.grownBy.refl _ (some w.heap.size)) 0 _) 1 _) 2 _) (fun i e h => by have := (HO2.out.block i e).1; have h' := Option.some.inj h; have : wA.drew.heap.size = wA.heap.size := rfl; omega)).mono HB.out.size
  have hS3 : w3.cell? ⟨g, 0, none⟩ = some (.slice (some ad) n c) ∧ EntAt w3 (ad.add (k * 3)) (.slice A' m c') en := by
    have h2 := HS2.out
    have e3 : ∀ i, i ≠ w.heap.size → w3.heap[i]? = w2.heap[i]? := fun i hi => by rw [hw3]; exact (heap_setCell_other _ _ i _ hi).trans ((heap_setCell_other _ _ i _ hi).trans (heap_setCell_other _ _ i _ hi))
    exact ⟨(World.cell?_of_block (a := ⟨g, 0, none⟩) (e3 g (by omega))).trans h2.1, h2.2.keep (e3 _ (by omega))⟩
  rw [← hw3]
  clear hw3 z0 z1 z2 fz lz
  refine hK.out _ _ hS3 (fun _ => ?_)
  clear hK K'
  try simp only [Act.put, List.setIfInBounds_toArray, List.set_cons_zero, List.set_cons_succ]
  refine wpAnyH_done (by decide +kernel) ?_ _
  obtain ⟨z0, z1, z2⟩ := cells3E hst
  have HOW := Lib.hid how
  clear hst hS3 how
  go_wp2
  refine bodyPost_ret (by rw [results_cell rfl]; go_simp; try rfl) rfl ?_
  rw [HZS.out]
  exact ⟨A3, c3, rfl, HOW.out, hbw⟩
set_option maxHeartbeats 4000000 in
set_option maxRecDepth 100000 in
theorem impl_listEnt (g : Nat) (A : Option Addr) (n c B : Nat) (ps : List Ent) (w : World) (hc : w.cell? ⟨g, 0, none⟩ = some (.slice A n c)) (hg : g < w.heap.size) (h : EntsAt w B A n ps) (hB : B ≤ w.heap.size) (hn : n ≤ 1048576) (hm : ∀ j, j < n → (entA ps j).lights.length ≤ 1048576) :
    Calls Try.prog 104 #[.int .i64 n, .func (.func 105) #[] #[.pointer (some ⟨g, 0, none⟩)]] w fun e w' => ∃ v xs, e = .returned v ∧ OwnEnt w' w.heap.size v xs ps ∧ Below w.heap.size w w' := by
  have hl := h.1
  have HL := Lib.hid hl
  have H := Lib.hid h
  have HC := Lib.hid hc
  have HM := Lib.hid hm
  clear h hm hl hc
  go_enter Try.func104, Try.ntmps104
  go_wp2_with ((with_reducible show wpList _ _ _ _ _ _); refine wpList_mkR rfl _ _ _ rfl 84 _ 3 _ Try.underlying35 info_ent (by decide) (n : Int) (n : Int) n rfl rfl rfl rfl (by omega) ?_; intro w1 hown hgrow)
  rw [made_ent] at hown
  go_loopw [11] (fun i wr => ∃ (k : Nat) (xs : List (Value × Ent)), k ≤ n ∧ xs.length = k ∧ i = .int .i64 k ∧ wr.ownsRow w.heap.size 84 3 (.slice (some ⟨w.heap.size, 0, none⟩) n n) n (entrow xs ++ entrow (List.replicate (n - xs.length) (.slice none 0 0, ent0))) ∧
      (∀ j, j < k → ∃ u, xs[j]? = some (u, entA ps j) ∧ Own .i64 3 wr w.heap.size u (entA ps j).lights) ∧ ApartL (xs.map (·.1)) ∧ Below w.heap.size w wr) (fun i _ => n - (intOf i).toNat)
  case atStart => exact ⟨0, [], Nat.zero_le _, rfl, rfl, by simpa [entrow] using hown, fun j hj => absurd hj (by omega), ApartL.nil, below_grown hgrow⟩
  case round =>
    clear hown hgrow
    obtain ⟨k, xs, hk, hul, rfl, hrow, heach, hap, hbl⟩ := hrel
    have hsz := hbl.size
    have HRW := Lib.hid hrow
    have HE := Lib.hid heach
    have HAP := Lib.hid hap
    have HBL := Lib.hid hbl
    have HUL := Lib.hid hul
    clear hrow heach hap hbl hul
    by_cases hlt : k < n
    · obtain ⟨ad, A', m, c', rfl, hab, hq, hi, hmc, hnil⟩ := H.out.at hlt
      have hml := hi.1
      have hmk := HM.out k hlt
      have hcc := impl_copyEntries1 g ad n c B k A' m c' (entA ps k) wr ((HBL.out.cell (p := ⟨g, 0, none⟩) hg).trans HC.out) (by omega) (hq.below HBL.out (by omega)) (by omega) (hi.keep (w' := wr) (fun p hp => HBL.out.cell (by omega))) (by omega) hnil (by omega) hlt (by omega)
      obtain ⟨en, hen⟩ : ∃ en, entA ps k = en := ⟨_, rfl⟩
      rw [hen] at hcc
      have HEN := Lib.hid hen
      have HCC := Lib.hid hcc
      clear hen hcc hq hi hml hmk
      have i1 : (0 : Int) ≤ (k : Int) := by omega
      have i2 : (k : Int) < (n : Int) := by omega
      go_wp2_with fail
      refine HCC.out.mono ?_
      rintro e w2 ⟨A3, c3, rfl, ho2, hb2⟩
      obtain ⟨zs, hzs⟩ : ∃ zs, en.lights = zs := ⟨_, rfl⟩
      rw [hzs] at ho2 ⊢
      have HZS := Lib.hid hzs
      have HO2 := Lib.hid ho2
      have HB2 := Lib.hid hb2
      clear hzs ho2 hb2
      have hrow2 := ownr_below HRW.out HB2.out
      obtain ⟨x0, hx0⟩ := ownr_some hrow2 (j := k * 3) (by omega)
      obtain ⟨x1, hx1⟩ := ownr_some hrow2 (j := k * 3 + 1) (by omega)
      obtain ⟨x2, hx2⟩ := ownr_some hrow2 (j := k * 3 + 2) (by omega)
      have f0 := World.ownsRow.frozenAt hrow2
      obtain ⟨w3, hw3⟩ : ∃ w3, w3 = ((w2.setCell ⟨w.heap.size, k * 3, none⟩ (.int .i64 en.second)).setCell ⟨w.heap.size, k * 3 + 1, none⟩ (.slice A3 zs.length c3)).setCell ⟨w.heap.size, k * 3 + 2, none⟩ (.int .i64 en.mac) := ⟨_, rfl⟩
      have hst := (World.ownsRow.stored (World.ownsRow.stored (World.ownsRow.stored hrow2 (k * 3) (.int .i64 en.second)).1 (k * 3 + 1) (.slice A3 zs.length c3)).1 (k * 3 + 2) (.int .i64 en.mac)).1
      rw [← hw3] at hst
      have hgs : w2.grownBy w3 (some w.heap.size) := by rw [hw3]; exact only_setCell (only_setCell (only_setCell (World.grownBy.refl _ _) _ _) _ _) _ _
      have hkept : ∀ {x : Value} {ys : List Int} {l : Nat}, Own .i64 3 w2 l x ys → Own .i64 3 w3 l x ys := fun hx => hx.grown hgs (fun g hg e => own_apart_ent hx hrow2 g hg e)
      have hsn : xs.length < n := by rw [HUL.out]; exact hlt
      have hsx := HUL.out
      have hnx := entrow_next xs n (Value.slice none 0 0, ent0) (Value.slice A3 zs.length c3, en) hsn
      rw [hsx] at hnx hst
      simp only at hnx
      rw [hnx] at hst
      have HR := Lib.hid hst
      have HE5 : Hid (∀ j, j < k + 1 → ∃ u, (xs ++ [(.slice A3 zs.length c3, en)])[j]? = some (u, entA ps j) ∧ Own .i64 3 w3 w.heap.size u (entA ps j).lights) := Lib.hid (eachE_snoc (w' := w3) HUL.out (fun j hj => by
        obtain ⟨u, h1, h2⟩ := HE.out j hj
        exact ⟨u, h1, hkept (h2.below HB2.out)⟩) (by rw [HEN.out, HZS.out]; exact hkept (HO2.out.mono hsz)) HEN.out)
      have HA5 : Hid (ApartL ((xs ++ [(Value.slice A3 zs.length c3, en)]).map (·.1))) := Lib.hid (apartE_snoc HUL.out HAP.out HE.out (Nat.le_refl _) (fun r hr => (HO2.out.block r hr).1))
      have HU5 : Hid ((xs ++ [(Value.slice A3 zs.length c3, en)]).length = k + 1) := Lib.hid (by rw [List.length_append, HUL.out]; rfl)
      have HB3 : Hid (Below w.heap.size w w3) := Lib.hid (by rw [hw3]; exact (((HBL.out.trans (HB2.out.mono hsz)).setCell (Nat.le_refl _) _).setCell (Nat.le_refl _) _).setCell (Nat.le_refl _) _)
      clear hst hgs hkept hrow2 hsx hnx hsn
      go_wp2
      rw [← hw3]
      clear hw3 hx0 hx1 hx2 f0
      go_roundw
      case rel => exact ⟨k + 1, xs ++ [(.slice A3 zs.length c3, en)], by omega, HU5.out, by go_num, HR.out, HE5.out, HA5.out, HB3.out⟩
      case measure => simp [intOf]; omega
    · obtain rfl : k = n := by omega
      have hrow := HRW.out
      rw [HUL.out, Nat.sub_self, List.replicate_zero] at hrow
      have HO : Hid (OwnEnt wr w.heap.size (.slice (some ⟨w.heap.size, 0, none⟩) k k) xs ps) := Lib.hid ⟨by rw [HL.out]; simpa [entrow] using hrow, fun j hj => HE.out j (by rw [← HL.out]; exact hj), HAP.out⟩
      clear hrow
      go_wp2
      go_ret
      exact ⟨_, xs, rfl, HO.out, HBL.out⟩
theorem impl_copyEntries (A : Option Addr) (n c B : Nat) (ps : List Ent) (w : World) (h : EntsAt w B A n ps) (hB : B ≤ w.heap.size) (hn : n ≤ 1048576) (hm : ∀ j, j < n → (entA ps j).lights.length ≤ 1048576) :
    Calls Try.prog 62 #[.slice A n c] w fun e w' => ∃ v xs, e = .returned v ∧ OwnEnt w' w.heap.size v xs ps ∧ Below w.heap.size w w' := by
  obtain ⟨wA, hwA⟩ : ∃ wA, wA = w.alloc (.cells #[.slice A n c] 35) := ⟨_, rfl⟩
  obtain ⟨hk, hsz, hBl⟩ := one_block hwA
  have hcell : wA.cell? ⟨w.heap.size, 0, none⟩ = some (.slice A n c) := by rw [cell_of_row wA _ 0 _ _ _ hk]; rfl
  have hcc := impl_listEnt w.heap.size A n c B ps wA hcell (by omega) (h.below hB hBl) (by omega) hn hm
  have HB := Lib.hid hBl
  clear hk hBl h hm
  go_enter Try.func62, Try.ntmps62
  go_wp2_with fail
  rw [← hwA]
  refine hcc.mono ?_
  rintro e w1 ⟨v, xs, rfl, ho, hb1⟩
  have HO := Lib.hid (ho.mono (show w.heap.size ≤ wA.heap.size by omega))
  have HB1 := Lib.hid (HB.out.trans (hb1.mono (by omega)))
  clear hwA hcc ho hb1
  go_wp2
  go_ret
  exact ⟨_, xs, rfl, HO.out, HB1.out⟩
end Go.Proofs.Ytlpkafhapmkkfaa

/- Hashes and ciphers as numbers. No program. -/
namespace Go.Proofs.Ytlpkafhapmkkfaa

/-- one step of the hash. -/
def hstep (d v : Int) : Int := (d * 1000003 + v % 2147483647 + 13) % 2147483647
theorem hstep_range (d v : Int) : 0 ≤ hstep d v ∧ hstep d v < 2147483647 := by unfold hstep; omega
/-- what Hash answers. -/
def hashI (vs : List Int) : Int := vs.foldl hstep 11
theorem hash_fold_range (vs : List Int) : ∀ d : Int, 0 ≤ d ∧ d < 2147483647 → 0 ≤ vs.foldl hstep d ∧ vs.foldl hstep d < 2147483647 := by
  induction vs with
  | nil => intro d h; exact h
  | cons v vs ih => intro d _; exact ih _ (hstep_range d v)
theorem hashI_range (vs : List Int) : 0 ≤ hashI vs ∧ hashI vs < 2147483647 := hash_fold_range vs 11 (by decide)
theorem hashI_take {vs : List Int} {k : Nat} (h : k < vs.length) : hashI (vs.take (k + 1)) = hstep (hashI (vs.take k)) (vs.getD k 0) := by
  unfold hashI
  rw [List.take_add_one, List.foldl_append, List.getD_eq_getElem?_getD, List.getElem?_eq_getElem h]
  rfl
theorem hashI_all {vs : List Int} {k : Nat} (h : vs.length = k) : hashI (vs.take k) = hashI vs := by rw [List.take_of_length_le (by omega)]
theorem mul_back {x q : Int} (h : x * 1000003 = 2147483647 * q) : ∃ y, x = 2147483647 * y := by
  refine ⟨q * 1523789695 - x * 709572, ?_⟩
  have e : (x * 1000003) * 1523789695 = (2147483647 * q) * 1523789695 := by rw [h]
  omega
theorem step_inj {c d r : Int} (hc : 0 ≤ c ∧ c < 2147483647) (hd : 0 ≤ d ∧ d < 2147483647) (h : (c * 1000003 + r) % 2147483647 = (d * 1000003 + r) % 2147483647) : c = d := by
  have h2 : (c * 1000003 + r - (d * 1000003 + r)) % 2147483647 = 0 := Int.emod_eq_emod_iff_emod_sub_eq_zero.1 h
  obtain ⟨q, hq⟩ := Int.dvd_of_emod_eq_zero h2
  have h3 : (c - d) * 1000003 = 2147483647 * q := by rw [← hq, Int.sub_mul]; omega
  obtain ⟨y, hy⟩ := mul_back h3
  clear h h2 hq h3
  omega
theorem hstep_left {c d v : Int} (hc : 0 ≤ c ∧ c < 2147483647) (hd : 0 ≤ d ∧ d < 2147483647) (h : hstep c v = hstep d v) : c = d := by
  unfold hstep at h
  rw [Int.add_assoc, Int.add_assoc (d * 1000003)] at h
  exact step_inj hc hd h
theorem hstep_right {d v u : Int} (h : hstep d v = hstep d u) : v % 2147483647 = u % 2147483647 := by
  unfold hstep at h
  omega
theorem hash_fold_inj (vs : List Int) : ∀ c d : Int, 0 ≤ c ∧ c < 2147483647 → 0 ≤ d ∧ d < 2147483647 → vs.foldl hstep c = vs.foldl hstep d → c = d := by
  induction vs with
  | nil => intro c d _ _ h; exact h
  | cons v vs ih => intro c d hc hd h; exact hstep_left hc hd (ih _ _ (hstep_range c v) (hstep_range d v) h)
/-- one value that differs modulo the modulus changes the hash. -/
theorem hash_differs (pre post : List Int) (v u : Int) (h : v % 2147483647 ≠ u % 2147483647) : hashI (pre ++ v :: post) ≠ hashI (pre ++ u :: post) := by
  unfold hashI
  rw [List.foldl_append, List.foldl_append, List.foldl_cons, List.foldl_cons]
  intro e
  exact h (hstep_right (hash_fold_inj post _ _ (hstep_range _ _) (hstep_range _ _) e))
/-- what KeyedHash answers. -/
def khash (k : Int) (vs : List Int) : Int := hashI (k :: (vs ++ [k]))
theorem khash_range (k : Int) (vs : List Int) : 0 ≤ khash k vs ∧ khash k vs < 2147483647 := hashI_range _
/-- what BytesToInts answers. -/
def toNums (zs : List Int) : List Int := (zs.length : Int) :: zs
/-- the key stream at place i. -/
def kstream (k : Int) (i : Nat) : Int := khash k [(i : Int)] % 256
/-- what Encrypt and Decrypt answer. -/
def encr (k : Int) (zs : List Int) : List Int := zs.mapIdx fun i z => (z + kstream k i) % 256
def decr (k : Int) (zs : List Int) : List Int := zs.mapIdx fun i z => (z - kstream k i) % 256
theorem encr_byte (k : Int) (zs : List Int) : ∀ z ∈ encr k zs, 0 ≤ z ∧ z ≤ 255 := by
  intro z hz
  obtain ⟨i, _, rfl⟩ := List.mem_mapIdx.1 hz
  omega
theorem decr_byte (k : Int) (zs : List Int) : ∀ z ∈ decr k zs, 0 ≤ z ∧ z ≤ 255 := by
  intro z hz
  obtain ⟨i, _, rfl⟩ := List.mem_mapIdx.1 hz
  omega
theorem encr_length (k : Int) (zs : List Int) : (encr k zs).length = zs.length := by simp [encr]
theorem decr_length (k : Int) (zs : List Int) : (decr k zs).length = zs.length := by simp [decr]
theorem decr_encr {k : Int} {zs : List Int} (h : ∀ z ∈ zs, 0 ≤ z ∧ z ≤ 255) : decr k (encr k zs) = zs := by
  unfold decr encr
  rw [List.mapIdx_mapIdx]
  apply List.ext_getElem?
  intro i
  rw [List.getElem?_mapIdx]
  cases hi : zs[i]? with
  | none => rfl
  | some z =>
    have hz := h z (List.mem_of_getElem? hi)
    simp only [Option.map_some, Function.comp, Option.some.injEq]
    omega
theorem encr_decr {k : Int} {zs : List Int} (h : ∀ z ∈ zs, 0 ≤ z ∧ z ≤ 255) : encr k (decr k zs) = zs := by
  unfold decr encr
  rw [List.mapIdx_mapIdx]
  apply List.ext_getElem?
  intro i
  rw [List.getElem?_mapIdx]
  cases hi : zs[i]? with
  | none => rfl
  | some z =>
    have hz := h z (List.mem_of_getElem? hi)
    simp only [Option.map_some, Function.comp, Option.some.injEq]
    omega
theorem encr_take {k : Int} {zs : List Int} {i : Nat} (h : i < zs.length) : encr k (zs.take (i + 1)) = encr k (zs.take i) ++ [(zs.getD i 0 + kstream k i) % 256] := by
  unfold encr
  rw [List.take_add_one, List.getElem?_eq_getElem h, Option.toList_some, List.mapIdx_append, List.getD_eq_getElem?_getD, List.getElem?_eq_getElem h]
  simp [List.length_take, Nat.min_eq_left (Nat.le_of_lt h)]
theorem decr_take {k : Int} {zs : List Int} {i : Nat} (h : i < zs.length) : decr k (zs.take (i + 1)) = decr k (zs.take i) ++ [(zs.getD i 0 - kstream k i) % 256] := by
  unfold decr
  rw [List.take_add_one, List.getElem?_eq_getElem h, Option.toList_some, List.mapIdx_append, List.getD_eq_getElem?_getD, List.getElem?_eq_getElem h]
  simp [List.length_take, Nat.min_eq_left (Nat.le_of_lt h)]
theorem encr_all {k : Int} {zs : List Int} {i : Nat} (h : zs.length = i) : encr k (zs.take i) = encr k zs := by rw [List.take_of_length_le (by omega)]
theorem decr_all {k : Int} {zs : List Int} {i : Nat} (h : zs.length = i) : decr k (zs.take i) = decr k zs := by rw [List.take_of_length_le (by omega)]
/-- what DeriveFromString answers. -/
def derive (k : Int) (zs : List Int) : Int := if khash k (toNums zs) = 0 then 1 else khash k (toNums zs)
theorem derive_range (k : Int) (zs : List Int) : 1 ≤ derive k zs ∧ derive k zs ≤ 2147483646 := by
  have h := khash_range k (toNums zs)
  unfold derive
  split <;> omega
end Go.Proofs.Ytlpkafhapmkkfaa

/- Chapter 3's hashes: program and model. -/
namespace Go.Proofs.Ytlpkafhapmkkfaa
open Go.RowKit
set_option linter.unusedVariables false

theorem modI_p (v : Int) : modI v 2147483647 = v % 2147483647 := rfl
theorem hash_step {d r : Int} (hd : 0 ≤ d ∧ d < 2147483647) (hr : 0 ≤ r ∧ r < 2147483647) : wrap64 (wrap64 (wrap64 (d * 1000003) + r) + 13) = d * 1000003 + r + 13 ∧ 0 ≤ d * 1000003 + r + 13 := by
  rw [IntWalk.wrap64_in (d * 1000003) (by omega), IntWalk.wrap64_in (d * 1000003 + r) (by omega), IntWalk.wrap64_in _ (by omega)]
  omega
theorem impl_fold (d v : Int) (w : World) (hd : 0 ≤ d ∧ d < 2147483647) :
    Calls Try.prog 132 #[.int .i64 d, .int .i64 v] w fun e w' => e = .returned (.int .i64 (hstep d v)) ∧ w = w' := by
  obtain ⟨h1, h2⟩ := hd
  have hr := Int.emod_nonneg v (show (2147483647 : Int) ≠ 0 by decide)
  have hr2 := Int.emod_lt_of_pos v (show (0 : Int) < 2147483647 by decide)
  have HS : Hid (hstep d v = (d * 1000003 + v % 2147483647 + 13) % 2147483647) := Lib.hid rfl
  go_enter Try.func132, Try.ntmps132
  go_wp2_with fail
  refine (impl_Mod v 2147483647 _).mono ?_
  rintro e w1 ⟨rfl, rfl⟩
  rw [modI_p]
  generalize v % 2147483647 = r at *
  go_wp2
  go_ret
  exact ⟨ret_i (by rw [HS.out]), rfl⟩
theorem foldl_take {vs : List Int} {k : Nat} (d : Int) (h : k < vs.length) : (vs.take (k + 1)).foldl hstep d = hstep ((vs.take k).foldl hstep d) (vs.getD k 0) := by
  rw [List.take_add_one, List.foldl_append, List.getD_eq_getElem?_getD, List.getElem?_eq_getElem h]
  rfl
theorem impl_foldAll (d : Int) (A : Option Addr) (n c B : Nat) (vs : List Int) (w : World) (hd : 0 ≤ d ∧ d < 2147483647) (h : IntsAt .i64 w B A n vs) (hn : n ≤ 4398046511104) :
    Calls Try.prog 125 #[.int .i64 d, .slice A n c] w fun e w' => e = .returned (.int .i64 (vs.foldl hstep d)) ∧ w = w' := by
  have hl := h.1
  go_enter Try.func125, Try.ntmps125
  go_wp2
  go_loop [0, 9] (fun x i => ∃ k : Nat, k ≤ n ∧ i = .int .i64 k ∧ x = .int .i64 ((vs.take k).foldl hstep d)) (fun _ i => n - (intOf i).toNat)
  case atStart => exact ⟨0, Nat.zero_le _, rfl, by simp⟩
  case round =>
    obtain ⟨k, hk, rfl, rfl⟩ := hrel
    by_cases hlt : k < n
    · obtain ⟨ad, rfl, hab, hcell⟩ := h.2 (by omega)
      have hc := hcell k hlt
      have HS := Lib.hid (foldl_take d (show k < vs.length by omega))
      have HR := Lib.hid (hash_fold_range (vs.take k) d hd)
      clear hcell
      generalize (vs.take k).foldl hstep d = x at *
      generalize vs.getD k 0 = z at *
      go_wp2_with fail
      refine (impl_fold x z _ HR.out).mono ?_
      rintro e w1 ⟨rfl, rfl⟩
      go_wp2
      go_round
      case rel => exact ⟨k + 1, by omega, by go_num, by rw [HS.out]⟩
      case measure => simp [intOf]; omega
    · obtain rfl : k = n := by omega
      rw [List.take_of_length_le (by omega)]
      go_wp2
      go_ret
      exact ⟨rfl, rfl⟩
theorem impl_Hash (A : Option Addr) (n c B : Nat) (vs : List Int) (w : World) (h : IntsAt .i64 w B A n vs) (hn : n ≤ 4398046511104) :
    Calls Try.prog 106 #[.slice A n c] w fun e w' => e = .returned (.int .i64 (hashI vs)) ∧ w = w' := by
  go_enter Try.func106, Try.ntmps106
  go_wp2_with fail
  refine (impl_foldAll 11 A n c B vs _ (by decide) h hn).mono ?_
  rintro e w1 ⟨rfl, rfl⟩
  go_wp2
  go_ret
  exact ⟨rfl, rfl⟩
theorem spec_Hash (A : Option Addr) (n c B : Nat) (vs : List Int) (w : World) (h : IntsAt .i64 w B A n vs) (hn : n ≤ 4398046511104) :
    Calls Try.prog 103 #[.slice A n c] w fun e w' => e = .returned (.int .i64 (hashI vs)) ∧ w = w' := by
  have hl := h.1
  go_enter Try.func103, Try.ntmps103
  go_wp2
  go_loop [3, 4] (fun x i => ∃ k : Nat, k ≤ n ∧ i = .int .i64 k ∧ x = .int .i64 (hashI (vs.take k))) (fun _ i => n - (intOf i).toNat)
  case atStart => exact ⟨0, Nat.zero_le _, rfl, rfl⟩
  case round =>
    obtain ⟨k, hk, rfl, rfl⟩ := hrel
    by_cases hlt : k < n
    · obtain ⟨ad, rfl, hab, hcell⟩ := h.2 (by omega)
      have hc := hcell k hlt
      have HS := Lib.hid (hashI_take (show k < vs.length by omega))
      obtain ⟨g1, g2⟩ := hashI_range (vs.take k)
      clear hcell
      generalize hashI (vs.take k) = x at *
      generalize vs.getD k 0 = z at *
      have HZ : Hid (hstep x z = (x * 1000003 + z % 2147483647 + 13) % 2147483647) := Lib.hid rfl
      have hr := Int.emod_nonneg z (show (2147483647 : Int) ≠ 0 by decide)
      have hr2 := Int.emod_lt_of_pos z (show (0 : Int) < 2147483647 by decide)
      go_wp2_with fail
      refine (spec_Mod z 2147483647 _).mono ?_
      rintro e w1 ⟨rfl, rfl⟩
      rw [modI_p]
      generalize z % 2147483647 = r at *
      go_wp2
      go_round
      case rel => exact ⟨k + 1, by omega, by go_num, by rw [HS.out, HZ.out]⟩
      case measure => simp [intOf]; omega
    · obtain rfl : k = n := by omega
      rw [hashI_all hl]
      go_wp2
      go_ret
      exact ⟨rfl, rfl⟩
end Go.Proofs.Ytlpkafhapmkkfaa

/- Chapter 27: records as data. No program. -/
namespace Go.Proofs.Ytlpkafhapmkkfaa
open Go.RowKit
set_option linter.unusedVariables false

/-- the seal of an entry behind a seal. -/
def sealI (b s : Int) (ls : List Int) : Int := hashI (b :: s :: ls)
/-- the seal that the entry before the k-th bears. -/
def prevM (zs : List Ent) (k : Nat) : Int := if k = 0 then 0 else (entA zs (k - 1)).mac
/-- whether the k-th stands well behind the one before. -/
def behE (zs : List Ent) (k : Nat) : Bool := decide (k = 0) || (decide ((entA zs (k - 1)).second < (entA zs k).second) && decide ((entA zs k).lights.length = (entA zs (k - 1)).lights.length))
def litsOk (ls : List Int) : Bool := ls.all (fun z => inB z 0 2)
def entOk (zs : List Ent) (k : Nat) : Bool := (inB (entA zs k).second 0 1000000 && decide ((entA zs k).lights.length ≤ 12) && litsOk (entA zs k).lights) && behE zs k && decide ((entA zs k).mac = sealI (prevM zs k) (entA zs k).second (entA zs k).lights)
/-- what IsRecord answers. -/
def isRec (zs : List Ent) : Bool := decide (zs.length ≤ 60) && (List.range zs.length).all (entOk zs)
theorem isRec_no {zs : List Ent} {k : Nat} (hk : k < zs.length) (h : entOk zs k = false) : isRec zs = false := by
  unfold isRec
  rw [List.all_eq_false.2 ⟨k, List.mem_range.2 hk, by rw [h]; simp⟩, Bool.and_false]
theorem isRec_end {zs : List Ent} (h : ∀ i, i < zs.length → entOk zs i = true) : isRec zs = decide (zs.length ≤ 60) := by
  unfold isRec
  rw [List.all_eq_true.2 (fun i hi => h i (List.mem_range.1 hi)), Bool.and_true]
theorem isRec_long {zs : List Ent} (h : 60 < zs.length) : isRec zs = false := by unfold isRec; rw [decide_eq_false (by omega), Bool.false_and]
theorem isRec_parts {zs : List Ent} (h : isRec zs = true) : zs.length ≤ 60 ∧ ∀ i, i < zs.length → entOk zs i = true := by
  unfold isRec at h
  rw [Bool.and_eq_true, decide_eq_true_eq, List.all_eq_true] at h
  exact ⟨h.1, fun i hi => h.2 i (List.mem_range.2 hi)⟩
theorem entOk_parts {zs : List Ent} {k : Nat} (h : entOk zs k = true) : (inB (entA zs k).second 0 1000000 = true ∧ (entA zs k).lights.length ≤ 12 ∧ litsOk (entA zs k).lights = true) ∧ (k = 0 ∨ ((entA zs (k - 1)).second < (entA zs k).second ∧ (entA zs k).lights.length = (entA zs (k - 1)).lights.length)) ∧ (entA zs k).mac = sealI (prevM zs k) (entA zs k).second (entA zs k).lights := by
  unfold entOk behE at h
  simpa [and_assoc] using h
theorem entOk_mk {zs : List Ent} {k : Nat} (h1 : inB (entA zs k).second 0 1000000 = true) (h2 : (entA zs k).lights.length ≤ 12) (h3 : litsOk (entA zs k).lights = true) (h4 : k = 0 ∨ ((entA zs (k - 1)).second < (entA zs k).second ∧ (entA zs k).lights.length = (entA zs (k - 1)).lights.length)) (h5 : (entA zs k).mac = sealI (prevM zs k) (entA zs k).second (entA zs k).lights) : entOk zs k = true := by
  unfold entOk behE
  rw [h1, h3, decide_eq_true h2, decide_eq_true h5]
  simpa using h4
theorem entOk_sec {zs : List Ent} {k : Nat} (h : inB (entA zs k).second 0 1000000 = false) : entOk zs k = false := by unfold entOk; rw [h]; simp
theorem entOk_len {zs : List Ent} {k : Nat} (h : ¬ (entA zs k).lights.length ≤ 12) : entOk zs k = false := by unfold entOk; rw [decide_eq_false h]; simp
theorem entOk_lit {zs : List Ent} {k : Nat} (h : litsOk (entA zs k).lights = false) : entOk zs k = false := by unfold entOk; rw [h]; simp
theorem entOk_beh {zs : List Ent} {k : Nat} (hk : k ≠ 0) (h : ¬ ((entA zs (k - 1)).second < (entA zs k).second ∧ (entA zs k).lights.length = (entA zs (k - 1)).lights.length)) : entOk zs k = false := by
  cases e : entOk zs k
  · rfl
  · rcases (entOk_parts e).2.1 with h0 | h0
    · exact absurd h0 hk
    · exact absurd h0 h
theorem entOk_mac {zs : List Ent} {k : Nat} (h : (entA zs k).mac ≠ sealI (prevM zs k) (entA zs k).second (entA zs k).lights) : entOk zs k = false := by unfold entOk; rw [decide_eq_false h]; simp
/-- all have as many lights as the first one. -/
theorem rec_len {zs : List Ent} : ∀ {k : Nat}, (∀ j, j < k → entOk zs j = true) → ∀ j, j < k → (entA zs j).lights.length = (entA zs 0).lights.length := by
  intro k h j
  induction j with
  | zero => intro _; rfl
  | succ j ih =>
    intro hj
    rcases (entOk_parts (h (j + 1) hj)).2.1 with h0 | h0
    · omega
    · rw [h0.2, Nat.add_sub_cancel]; exact ih (by omega)
/-- the seconds ascend. -/
theorem rec_sec {zs : List Ent} {k : Nat} (h : ∀ j, j < k → entOk zs j = true) : ∀ i j, i < j → j < k → (entA zs i).second < (entA zs j).second := by
  intro i j hij
  induction j with
  | zero => omega
  | succ j ih =>
    intro hj
    have hs : (entA zs j).second < (entA zs (j + 1)).second := by
      rcases (entOk_parts (h (j + 1) hj)).2.1 with h0 | h0
      · omega
      · rw [Nat.add_sub_cancel] at h0; exact h0.1
    rcases Nat.lt_or_ge i j with h1 | h1
    · exact Int.lt_trans (ih h1 (by omega)) hs
    · obtain rfl : i = j := by omega
      exact hs
/-- the index of the last entry, of the first k, that is not behind a second; -1 if there is none. -/
def atK (zs : List Ent) (s : Int) : Nat → Int
  | 0 => -1
  | k + 1 => if (entA zs k).second ≤ s then (k : Int) else atK zs s k
/-- the entry that a record knows of a second. -/
def atE (zs : List Ent) (s : Int) : Int := if isRec zs then atK zs s zs.length else -1
theorem atK_bound (zs : List Ent) (s : Int) : ∀ k : Nat, -1 ≤ atK zs s k ∧ atK zs s k < k
  | 0 => by simp [atK]
  | k + 1 => by
    have := atK_bound zs s k
    have e : atK zs s (k + 1) = if (entA zs k).second ≤ s then (k : Int) else atK zs s k := rfl
    rw [e]
    split <;> omega
theorem atE_bound (zs : List Ent) (s : Int) : -1 ≤ atE zs s ∧ atE zs s < zs.length := by
  have := atK_bound zs s zs.length
  unfold atE
  split <;> omega
theorem atE_no {zs : List Ent} {s : Int} (h : isRec zs = false) : atE zs s = -1 := by unfold atE; rw [h]; rfl
theorem atE_yes {zs : List Ent} {s : Int} (h : isRec zs = true) : atE zs s = atK zs s zs.length := by unfold atE; rw [h]; rfl
/-- where the seconds ascend the search's end is the last one that is not behind. -/
theorem atK_cut {zs : List Ent} {s : Int} {m : Nat} : ∀ {k : Nat}, m ≤ k → (∀ j, j < m → (entA zs j).second ≤ s) → (∀ j, m ≤ j → j < k → ¬ (entA zs j).second ≤ s) → atK zs s k = (m : Int) - 1
  | 0, hm, h1, h2 => by obtain rfl : m = 0 := by omega
                        simp [atK]
  | k + 1, hm, h1, h2 => by
    have e : atK zs s (k + 1) = if (entA zs k).second ≤ s then (k : Int) else atK zs s k := rfl
    rw [e]
    by_cases e : m = k + 1
    · subst e
      rw [if_pos (h1 k (by omega))]
      omega
    · rw [if_neg (h2 k (by omega) (by omega))]
      exact atK_cut (by omega) h1 (fun j hj hk => h2 j hj (by omega))
/-- the light with an index that an entry shows; -1 if there is none. -/
def litE (zs : List Ent) (i : Int) (e : Int) : Int := if e < 0 ∨ inB i 0 (((entA zs 0).lights.length : Int) - 1) = false then -1 else (entA zs e.toNat).lights.getD i.toNat 0
/-- what LightShown answers. -/
def shownL (zs : List Ent) (i s : Int) : Int := litE zs i (atE zs s)
/-- what ShownAt answers. -/
def shownA (zs : List Ent) (s : Int) : List Int × Bool := if atE zs s < 0 then ([], false) else ((entA zs (atE zs s).toNat).lights, true)
end Go.Proofs.Ytlpkafhapmkkfaa

/- Chapter 27: SealOf: program and model; slices.Concat, slices.Grow of integers. -/
namespace Go.Proofs.Ytlpkafhapmkkfaa
open Go.RowKit
set_option linter.unusedVariables false

set_option maxHeartbeats 1000000 in
theorem spec_SealOf (b s : Int) (A : Option Addr) (n c B : Nat) (ls : List Int) (w : World) (h : IntsAt .i64 w B A n ls) (hA : A = none → n = 0 ∧ c = 0) (hB : B ≤ w.heap.size) (hn : n ≤ 1099511627776) :
    Calls Try.prog 58 #[.int .i64 b, .int .i64 s, .slice A n c] w fun e w' => e = .returned (.int .i64 (sealI b s ls)) ∧ Below w.heap.size w w' := by
  have hl := h.1
  have HV : Hid (sealI b s ls = hashI (b :: s :: ls)) := Lib.hid rfl
  have own0 : Own .i64 3 (w.alloc (.cells #[.int .i64 b, .int .i64 s] 3)) w.heap.size (.slice (some ⟨w.heap.size, 0, none⟩) 2 2) [b, s] := own_lit w [b, s] 2 (Nat.le_refl _) (by decide) rfl
  go_enter Try.func58, Try.ntmps58
  go_wp2_with (first
    | (at_builtin; refine wpList_app rfl _ _ 22 22 rfl .i64 3 3 8 Try.underlying22 Try.underlying22 info_i64 w.heap.size _ [b, s] rfl own0 A n c B ls rfl (h.keep fun p hp => World.cell?_of_block (Below.heap_alloc w _ _ (by omega))) hA (by decide) (by simp; omega) (by simp) ?_; intro v1 w1 hown1 hgrow1 hat1; have hb1 := own0.push (Nat.le_refl _) ((Below.refl _ _).alloc (Nat.le_refl _) _) (by simp) hgrow1; have hs1 := hb1.size; obtain ⟨A2, c2, rfl⟩ := hown1.sliced))
  have hi2 := hown1.ints
  rw [show ([b, s] ++ ls).length = n + 1 + 1 by simp [hl]] at hi2
  clear hgrow1 hat1 hown1 own0
  refine (spec_Hash A2 (n + 1 + 1) c2 _ ([b, s] ++ ls) _ hi2 (by omega)).mono ?_
  rintro e w3 ⟨rfl, rfl⟩
  go_wp2
  go_ret
  exact ⟨by rw [HV.out]; rfl, hb1⟩
theorem zc_size (m : Nat) : (Builtin.zeroCells (Value.int .i64 0).cells m).size = m := by
  simp [Builtin.zeroCells, Value.cells]
theorem lib_GrowNil (m : Nat) (w : World) (hm : m ≤ 1099511627776) (hp : 0 < m) :
    Calls Try.prog 126 #[.slice none 0 0, .int .i64 m] w fun e w' => ∃ v, e = .returned v ∧ Own .i64 3 w' w.heap.size v [] ∧ Below w.heap.size w w' := by
  have e1 : ¬ (m : Int) < 0 := by omega
  have e2 : (m : Int) > 0 := by omega
  have hwm : IntKind.i64.wrap (m : Int) = (m : Int) := by rw [IntKind.wrap_i64]; omega
  obtain ⟨i, hi1, hz, hsz, hby⟩ := info_parts (info_i64)
  have hr := fun ty => Lib.run_append_nil_zeros (P := Try.prog) w 22 3 ty 3 i (.int .i64 0) .i64 .i64 Try.underlying22 Try.underlying3 hi1 hz m hp (by omega) (by omega) (by rw [hby]; have e8 : IntKind.i64.bits / 8 = 8 := rfl; rw [e8]; omega)
  have hc1 := grownCap_ge w m 0 3
  have hc2 := grownCap_le_maxLen w m 0 3 (by unfold maxLen; omega)
  obtain ⟨q, hq⟩ : ∃ q, q = grownCap w m 0 3 := ⟨_, rfl⟩
  rw [← hq] at hc1 hc2
  simp only [← hq] at hr
  have HW : Hid (Own .i64 3 (w.drew.alloc (.cells (Builtin.zeroCells (Value.int .i64 0).cells m ++ Builtin.zeroCells (Value.int .i64 0).cells (q - m)) 3)) w.heap.size (.slice (some ⟨w.heap.size, 0, none⟩) 0 q) []) := Lib.hid ⟨rfl, .inr ⟨w.heap.size, q, _, rfl, Nat.le_refl _, heap_alloc_new w.drew _, Nat.zero_le _, hc2, by rw [Array.size_append, zc_size, zc_size]; omega, rfl⟩⟩
  have HB : Hid (Below w.heap.size w (w.drew.alloc (.cells (Builtin.zeroCells (Value.int .i64 0).cells m ++ Builtin.zeroCells (Value.int .i64 0).cells (q - m)) 3))) := Lib.hid ((show Below w.heap.size w w.drew from ⟨rfl, rfl, rfl, Nat.le_refl _, fun _ _ => rfl⟩).alloc (Nat.le_refl _) _)
  generalize w.drew.alloc (.cells (Builtin.zeroCells (Value.int .i64 0).cells m ++ Builtin.zeroCells (Value.int .i64 0).cells (q - m)) 3) = w1 at *
  clear hi1 hz hsz hby hq
  go_enter Try.func126, Try.ntmps126
  go_wp2_with (at_builtin; refine Lib.wpList_append_run w rfl _ _ _ _ rfl (.slice none 0 0) (.int .i64 m) rfl rfl _ _ (hr _) ?_)
  go_ret
  exact ⟨_, rfl, HW.out, HB.out⟩
set_option maxHeartbeats 2000000 in
/-- slices.Concat of two rows, the first one not empty. -/
theorem lib_Concat2 (H : Nat) (A1 : Option Addr) (n1 c1 : Nat) (xs : List Int) (A2 : Option Addr) (n2 c2 : Nat) (ys : List Int) (B : Nat) (w : World)
    (hH : w.heap[H]? = some (.cells #[.slice A1 n1 c1, .slice A2 n2 c2] 22)) (h1 : IntsAt .i64 w B A1 n1 xs) (h2 : IntsAt .i64 w B A2 n2 ys) (hB : B ≤ w.heap.size) (hA1 : A1 = none → n1 = 0 ∧ c1 = 0) (hA2 : A2 = none → n2 = 0 ∧ c2 = 0) (hp : 0 < n1) (hs1 : n1 ≤ 1048576) (hs2 : n2 ≤ 1048576) :
    Calls Try.prog 107 #[.slice (some ⟨H, 0, none⟩) 2 2] w fun e w' => ∃ A c, e = .returned (.slice A (n1 + n2) c) ∧ Own .i64 3 w' w.heap.size (.slice A (n1 + n2) c) (xs ++ ys) ∧ Below w.heap.size w w' := by
  have hl1 := h1.1
  have hl2 := h2.1
  have z0 : w.cell? ⟨H, 0, none⟩ = some (.slice A1 n1 c1) := by rw [cell_of_row w H 0 _ _ _ hH]; rfl
  have z1 : w.cell? ⟨H, 1, none⟩ = some (.slice A2 n2 c2) := by rw [cell_of_row w H 1 _ _ _ hH]; rfl
  have wa : IntKind.i64.wrap ((n1 : Int) + (n2 : Int)) = ((n1 + n2 : Nat) : Int) := by rw [IntKind.wrap_i64]; omega
  have wb : IntKind.i64.wrap ((n1 : Int)) = (n1 : Int) := by rw [IntKind.wrap_i64]; omega
  have hlt := lt_of_block hH
  have HZ := Lib.hid hH
  clear hH
  go_enter Try.func107, Try.ntmps107
  go_wp2_with fail
  go_loopw [3, 11] (fun z i wr => w = wr ∧ ((i = .int .i64 0 ∧ z = .int .i64 0) ∨ (i = .int .i64 1 ∧ z = .int .i64 n1) ∨ (i = .int .i64 2 ∧ z = .int .i64 ((n1 + n2 : Nat) : Int)))) (fun _ i _ => 2 - (intOf i).toNat)
  case atStart => exact ⟨rfl, .inl ⟨rfl, rfl⟩⟩
  case round =>
    obtain ⟨rfl, ⟨rfl, rfl⟩ | ⟨rfl, rfl⟩ | ⟨rfl, rfl⟩⟩ := hrel
    · have e2 : ¬ (n1 : Int) < 0 := by omega
      go_wp2_with fail
      go_roundw
      case rel => exact ⟨by first | trivial | rfl, .inr (.inl ⟨by go_num, by go_num⟩)⟩
      case measure => simp [intOf]
    · have e1 : ¬ ((n1 + n2 : Nat) : Int) < 0 := by omega
      have e3 : ¬ (n1 : Int) + (n2 : Int) < 0 := by omega
      go_wp2_with fail
      go_roundw
      case rel => exact ⟨by first | trivial | rfl, .inr (.inr ⟨by go_num, by go_num⟩)⟩
      case measure => simp [intOf]
    · clear z0 z1
      go_wp2_with fail
      refine (lib_GrowNil (n1 + n2) w (by omega) (by omega)).mono ?_
      rintro e w1 ⟨v, rfl, ho, hb⟩
      have hH1 := Lib.hid ((hb.block H hlt).trans HZ.out)
      have HO := Lib.hid ho
      have HB := Lib.hid hb
      obtain ⟨Ag, cg, rfl⟩ := ho.sliced
      have I1 := Lib.hid h1
      have I2 := Lib.hid h2
      clear ho hb h1 h2
      go_wp2_with fail
      go_loopw [6, 27] (fun v i wr => Below w.heap.size w wr ∧ ((i = .int .i64 0 ∧ Own .i64 3 wr w.heap.size v []) ∨ (i = .int .i64 1 ∧ Own .i64 3 wr w.heap.size v xs) ∨ (i = .int .i64 2 ∧ Own .i64 3 wr w.heap.size v (xs ++ ys)))) (fun _ i _ => 2 - (intOf i).toNat)
      case atStart => exact ⟨HB.out, .inl ⟨rfl, HO.out⟩⟩
      case round =>
        obtain ⟨hbl, ⟨rfl, ho⟩ | ⟨rfl, ho⟩ | ⟨rfl, ho⟩⟩ := hrel
        · have hHr := (hbl.block H hlt).trans HZ.out
          have z0 : wr.cell? ⟨H, 0, none⟩ = some (.slice A1 n1 c1) := by rw [cell_of_row wr H 0 _ _ _ hHr]; rfl
          have hi := I1.out.keep (w' := wr) (fun p hp => hbl.cell (by omega))
          have hsz := hbl.size
          have HBL := Lib.hid hbl
          clear hHr hbl
          go_wp2_with (at_builtin; refine wpList_app rfl _ _ 22 22 rfl .i64 3 3 8 Try.underlying22 Try.underlying22 info_i64 w.heap.size _ [] rfl ho A1 n1 c1 B xs rfl hi hA1 (by decide) (by simp; omega) (by omega) ?_; intro v1 wq hown1 hgrow1 hat1; have hb1 := ho.push (Nat.le_refl _) HBL.out hsz hgrow1; have hown2 : Own .i64 3 wq w.heap.size v1 xs := by { simpa using hown1 }; clear hown1 hgrow1 hat1)
          go_roundw
          case rel => exact ⟨hb1, .inr (.inl ⟨by go_num, hown2⟩)⟩
          case measure => simp [intOf]
        · have hHr := (hbl.block H hlt).trans HZ.out
          have z1 : wr.cell? ⟨H, 1, none⟩ = some (.slice A2 n2 c2) := by rw [cell_of_row wr H 1 _ _ _ hHr]; rfl
          have hi := I2.out.keep (w' := wr) (fun p hp => hbl.cell (by omega))
          have hsz := hbl.size
          have HBL := Lib.hid hbl
          clear hHr hbl
          go_wp2_with (at_builtin; refine wpList_app rfl _ _ 22 22 rfl .i64 3 3 8 Try.underlying22 Try.underlying22 info_i64 w.heap.size _ xs rfl ho A2 n2 c2 B ys rfl hi hA2 (by decide) (by omega) (by omega) ?_; intro v1 wq hown1 hgrow1 hat1; have hb1 := ho.push (Nat.le_refl _) HBL.out hsz hgrow1; clear hgrow1 hat1)
          go_roundw
          case rel => exact ⟨hb1, .inr (.inr ⟨by go_num, hown1⟩)⟩
          case measure => simp [intOf]
        · obtain ⟨Ae, ce, rfl⟩ := ho.sliced
          have HOE := Lib.hid ho
          clear ho
          go_wp2_with fail
          go_ret
          exact ⟨Ae, ce, by simp [hl1, hl2], by have := HOE.out; simpa [hl1, hl2] using this, hbl⟩
set_option maxHeartbeats 2000000 in
theorem impl_SealOf (b s : Int) (A : Option Addr) (n c B : Nat) (ls : List Int) (w : World) (h : IntsAt .i64 w B A n ls) (hA : A = none → n = 0 ∧ c = 0) (hB : B ≤ w.heap.size) (hn : n ≤ 1048576) :
    Calls Try.prog 64 #[.int .i64 b, .int .i64 s, .slice A n c] w fun e w' => e = .returned (.int .i64 (sealI b s ls)) ∧ Below w.heap.size w w' := by
  have hl := h.1
  have HV : Hid (sealI b s ls = hashI (b :: s :: ls)) := Lib.hid rfl
  obtain ⟨wA, hwA⟩ : ∃ wA, wA = (w.alloc (.cells #[.int .i64 b, .int .i64 s] 3)).alloc (.cells #[.slice (some ⟨w.heap.size, 0, none⟩) 2 2, .slice A n c] 22) := ⟨_, rfl⟩
  obtain ⟨hk0, hk1, hsz, hBA⟩ := two_blocks hwA
  have own0 : Own .i64 3 (w.alloc (.cells #[.int .i64 b, .int .i64 s] 3)) w.heap.size (.slice (some ⟨w.heap.size, 0, none⟩) 2 2) [b, s] := own_lit w [b, s] 2 (Nat.le_refl _) (by decide) rfl
  have own1 := (own0.alloc (.cells #[.slice (some ⟨w.heap.size, 0, none⟩) 2 2, .slice A n c] 22))
  rw [← hwA] at own1
  have hcc := lib_Concat2 (w.heap.size + 1) (some ⟨w.heap.size, 0, none⟩) 2 2 [b, s] A n c ls wA.heap.size wA hk1 own1.ints ((h.keep fun p hp => hBA.cell (by omega)).up (by omega)) (Nat.le_refl _) (by simp) hA (by omega) (by omega) hn
  have HBA := Lib.hid hBA
  clear hk0 hk1 hsz own0 own1 hBA
  go_enter Try.func64, Try.ntmps64
  go_wp2_with fail
  rw [← hwA]
  clear hwA
  refine hcc.mono ?_
  rintro e w1 ⟨A1, c1, rfl, ho, hb⟩
  have hi := ho.ints
  have HB1 := Lib.hid (HBA.out.trans (hb.mono HBA.out.size))
  clear hcc ho hb
  go_wp2_with fail
  refine (impl_Hash A1 (2 + n) c1 _ ([b, s] ++ ls) _ hi (by omega)).mono ?_
  rintro e w3 ⟨rfl, rfl⟩
  go_wp2
  go_ret
  exact ⟨by rw [HV.out]; rfl, HB1.out⟩
end Go.Proofs.Ytlpkafhapmkkfaa

/- Chapter 27: entries linked to the ones before them: lastOf, seal, LastSeal: program and model. -/
namespace Go.Proofs.Ytlpkafhapmkkfaa
open Go.RowKit
set_option linter.unusedVariables false

/-- the pointer to the k-th entry, linked to all before it. -/
def LkAt (w : World) (lo : Nat) (zs : List Ent) : Nat → Value → Prop
  | 0, v => v = .pointer none
  | k + 1, v => ∃ (g : Nat) (v' : Value) (A : Option Addr) (m c : Nat), v = .pointer (some ⟨g, 0, none⟩) ∧ lo ≤ g ∧
      w.heap[g]? = some (.cells #[.int .i64 (entA zs k).second, .slice A m c, .int .i64 (entA zs k).mac, v'] 91) ∧ IntsAt .i64 w w.heap.size A m (entA zs k).lights ∧ (A = none → m = 0 ∧ c = 0) ∧ LkAt w lo zs k v'
theorem LkAt.below {w w' : World} {lo : Nat} {zs : List Ent} (hb : Below w.heap.size w w') : ∀ {k : Nat} {v : Value}, LkAt w lo zs k v → LkAt w' lo zs k v
  | 0, _, h => h
  | k + 1, _, ⟨g, v', A, m, c, e, hl, hg, hi, hn, h⟩ => ⟨g, v', A, m, c, e, hl, (hb.block _ (lt_of_block hg)).trans hg, (hi.keep fun _ hp => hb.cell hp).up hb.size, hn, LkAt.below hb h⟩
theorem LkAt.ptr {w : World} {lo : Nat} {zs : List Ent} : ∀ {k : Nat} {v : Value}, LkAt w lo zs k v → ∃ o, v = .pointer o
  | 0, _, h => ⟨_, h⟩
  | k + 1, _, ⟨g, v', A, m, c, e, _⟩ => ⟨_, e⟩
/-- the last one's seal. -/
def lastSl (zs : List Ent) : Int := if zs.length = 0 then 0 else (entA zs (zs.length - 1)).mac
theorem cells4 {w : World} {g : Nat} {x0 x1 x2 x3 : Value} {E : TypeId} {fr : Nat × Nat} (h : w.heap[g]? = some (.cells #[x0, x1, x2, x3] E fr)) : w.cell? ⟨g, 0, none⟩ = some x0 ∧ w.cell? ⟨g, 1, none⟩ = some x1 ∧ w.cell? ⟨g, 2, none⟩ = some x2 ∧ w.cell? ⟨g, 3, none⟩ = some x3 :=
  ⟨by rw [cell_of_row w g 0 _ E fr h]; rfl, by rw [cell_of_row w g _ _ E fr h]; rfl, by rw [cell_of_row w g _ _ E fr h]; rfl, by rw [cell_of_row w g _ _ E fr h]; rfl⟩
set_option maxHeartbeats 1000000 in
theorem impl_lastOf (A : Option Addr) (n c B : Nat) (zs : List Ent) (w : World) (h : EntsAt w B A n zs) (hB : B ≤ w.heap.size) (hn : n ≤ 4294967296) :
    Calls Try.prog 69 #[.slice A n c] w fun e w' => ∃ v, e = .returned v ∧ LkAt w' w.heap.size zs n v ∧ Below w.heap.size w w' := by
  have hl := h.1
  go_enter Try.func69, Try.ntmps69
  go_wp2
  go_loopw [3, 8] (fun v i wr => ∃ k : Nat, k ≤ n ∧ i = .int .i64 k ∧ LkAt wr w.heap.size zs k v ∧ Below w.heap.size w wr) (fun _ i _ => n - (intOf i).toNat)
  case atStart => exact ⟨0, Nat.zero_le _, rfl, rfl, Below.refl _ _⟩
  case round =>
    obtain ⟨k, hk, rfl, hv, hbl⟩ := hrel
    by_cases hlt : k < n
    · obtain ⟨ad, A', m, c', rfl, hab, hq, hi, hmc, hnil⟩ := h.at hlt
      obtain ⟨c0, c1, c2⟩ := hq.below hbl (by omega)
      have hiw := hi.keep (w' := wr) (fun p hp => hbl.cell (by omega))
      have hsz := hbl.size
      have i1 : (0 : Int) ≤ (k : Int) := by omega
      have i2 : (k : Int) < (n : Int) := by omega
      obtain ⟨o3, rfl⟩ := hv.ptr
      have HV := Lib.hid hv
      have HI := Lib.hid hiw
      have HB := Lib.hid hbl
      have HNL := Lib.hid hnil
      clear hq hi hiw hv hbl hnil
      go_wp2
      go_roundw
      case rel =>
        have hb2 : Below wr.heap.size wr ((wr.alloc (.cells #[.int .i64 (entA zs k).second, .slice A' m c', .int .i64 (entA zs k).mac] 84)).alloc (.cells #[.int .i64 (entA zs k).second, .slice A' m c', .int .i64 (entA zs k).mac, .pointer o3] 91)) := ((Below.refl _ _).alloc (Nat.le_refl _) _).alloc (by simp) _
        refine ⟨k + 1, by omega, by go_num, ⟨wr.heap.size + 1, .pointer o3, A', m, c', rfl, by omega, heap_newF _ _ (heap_size_allocF _ _), (HI.out.keep fun _ hp => hb2.cell (by omega)).up (by simp; omega), HNL.out, HV.out.below hb2⟩, HB.out.trans (hb2.mono hsz)⟩
      case measure => simp [intOf]; omega
    · obtain rfl : k = n := by omega
      have HV := Lib.hid hv
      clear hv
      go_wp2
      go_ret
      exact ⟨_, rfl, HV.out, hbl⟩
theorem impl_seal_nil (w : World) : Calls Try.prog 108 #[.pointer none] w fun e w' => e = .returned (.int .i64 0) ∧ w = w' := by
  go_enter Try.func108, Try.ntmps108
  go_wp2
  go_ret
  exact ⟨rfl, rfl⟩
theorem impl_seal (g : Nat) (x0 x1 v : Value) (s : Int) (w : World) (h : w.heap[g]? = some (.cells #[x0, x1, .int .i64 s, v] 91)) : Calls Try.prog 108 #[.pointer (some ⟨g, 0, none⟩)] w fun e w' => e = .returned (.int .i64 s) ∧ w = w' := by
  obtain ⟨c0, c1, c2, c3⟩ := cells4 h
  clear h
  go_enter Try.func108, Try.ntmps108
  go_wp2
  go_ret
  exact ⟨rfl, rfl⟩
theorem impl_LastSeal (A : Option Addr) (n c B : Nat) (zs : List Ent) (w : World) (h : EntsAt w B A n zs) (hB : B ≤ w.heap.size) (hn : n ≤ 4294967296) :
    Calls Try.prog 65 #[.slice A n c] w fun e w' => e = .returned (.int .i64 (lastSl zs)) ∧ Below w.heap.size w w' := by
  have hl := h.1
  have hcc := impl_lastOf A n c B zs w h hB hn
  go_enter Try.func65, Try.ntmps65
  go_wp2_with fail
  refine hcc.mono ?_
  rintro e w1 ⟨v, rfl, hv, hb1⟩
  clear hcc h
  match n, hl, hv with
  | 0, hl, hv =>
    have hv' : v = .pointer none := hv
    subst hv'
    have HR : Hid (lastSl zs = 0) := Lib.hid (by unfold lastSl; rw [if_pos hl])
    go_wp2_with fail
    refine (impl_seal_nil _).mono ?_
    rintro e w2 ⟨rfl, rfl⟩
    go_wp2
    go_ret
    exact ⟨by rw [HR.out]; try rfl, hb1⟩
  | k + 1, hl, hv =>
    obtain ⟨g, v', A', m, c', rfl, hlo, hg, hi, hnl, hv'⟩ := hv
    have HR : Hid (lastSl zs = (entA zs k).mac) := Lib.hid (by unfold lastSl; rw [if_neg (by omega), hl]; rfl)
    clear hi hv'
    go_wp2_with fail
    refine (impl_seal g _ _ _ _ _ hg).mono ?_
    rintro e w2 ⟨rfl, rfl⟩
    go_wp2
    go_ret
    exact ⟨by rw [HR.out]; try rfl, hb1⟩
theorem spec_LastSeal (A : Option Addr) (n c B : Nat) (zs : List Ent) (w : World) (h : EntsAt w B A n zs) (hB : B ≤ w.heap.size) (hn : n ≤ 4294967296) :
    Calls Try.prog 59 #[.slice A n c] w fun e w' => e = .returned (.int .i64 (lastSl zs)) ∧ Below w.heap.size w w' := by
  have hl := h.1
  match n, hl, h, hn with
  | 0, hl, h, hn =>
    have HR : Hid (lastSl zs = 0) := Lib.hid (by unfold lastSl; rw [if_pos hl])
    go_enter Try.func59, Try.ntmps59
    go_wp2
    go_ret
    exact ⟨by rw [HR.out]; try rfl, Below.refl _ _⟩
  | k + 1, hl, h, hn =>
    obtain ⟨ad, A', m, c', rfl, hab, hq, hi, hmc, hnil⟩ := h.at (j := k) (by omega)
    have HR : Hid (lastSl zs = (entA zs k).mac) := Lib.hid (by unfold lastSl; rw [if_neg (by omega), hl]; rfl)
    obtain ⟨c0, c1, c2⟩ := hq
    have b0 : ((((k + 1 : Nat) : Int)) == 0) = false := by simp; omega
    have i1 : (0 : Int) ≤ (k : Int) := by omega
    clear hi h
    go_enter Try.func59, Try.ntmps59
    go_wp2
    go_ret
    exact ⟨by rw [HR.out]; try rfl, Below.refl _ _⟩
end Go.Proofs.Ytlpkafhapmkkfaa

/- Chapter 27: IsRecord of the program. -/
namespace Go.Proofs.Ytlpkafhapmkkfaa
open Go.RowKit
set_option linter.unusedVariables false

theorem impl_isSecondR (n : Int) (w : World) : Calls Try.prog 71 #[.int .i64 n] w fun e w' => e = .returned (.bool (inB n 0 1000000)) ∧ w = w' := by
  go_enter Try.func71, Try.ntmps71
  go_wp2_with fail
  refine (impl_InRange _ _ _ _).mono ?_
  rintro e w' ⟨rfl, rfl⟩
  go_wp2
  go_ret
  exact ⟨rfl, rfl⟩
theorem litsOk_no {ls : List Int} {k : Nat} (hk : k < ls.length) (h : inB (ls.getD k 0) 0 2 = false) : litsOk ls = false := by
  unfold litsOk
  exact List.all_eq_false.2 ⟨ls.getD k 0, by rw [List.getD_eq_getElem?_getD, List.getElem?_eq_getElem hk]; exact List.getElem_mem _, by rw [h]; simp⟩
theorem litsOk_yes {ls : List Int} (h : ∀ k, k < ls.length → inB (ls.getD k 0) 0 2 = true) : litsOk ls = true := by
  unfold litsOk
  refine List.all_eq_true.2 (fun z hz => ?_)
  obtain ⟨i, hi, rfl⟩ := List.mem_iff_getElem.1 hz
  have := h i hi
  rwa [List.getD_eq_getElem?_getD, List.getElem?_eq_getElem hi] at this
def shwB (ls : List Int) : Bool := decide (ls.length ≤ 12) && litsOk ls
theorem impl_areShown (A : Option Addr) (n c B : Nat) (ls : List Int) (w : World) (h : IntsAt .i64 w B A n ls) (hn : n ≤ 4294967296) :
    Calls Try.prog 127 #[.slice A n c] w fun e w' => e = .returned (.bool (shwB ls)) ∧ w = w' := by
  have hl := h.1
  by_cases h12 : 12 < n
  · have HV : Hid (shwB ls = false) := Lib.hid (by unfold shwB; rw [decide_eq_false (by omega), Bool.false_and])
    have e1 : (n : Int) > 12 := by omega
    go_enter Try.func127, Try.ntmps127
    go_wp2
    go_ret
    exact ⟨by rw [HV.out]; rfl, rfl⟩
  have e1 : ¬ (n : Int) > 12 := by omega
  have HNO : Hid (∀ k, k < n → inB (ls.getD k 0) 0 2 = false → shwB ls = false) := Lib.hid (fun k hk h => by unfold shwB; rw [litsOk_no (by omega) h, Bool.and_false])
  have HYES : Hid ((∀ k, k < n → inB (ls.getD k 0) 0 2 = true) → shwB ls = true) := Lib.hid (fun h => by unfold shwB; rw [litsOk_yes (fun k hk => h k (by omega)), decide_eq_true (by omega)]; rfl)
  clear hl
  go_enter Try.func127, Try.ntmps127
  go_wp2
  go_loopw [10] (fun i wr => ∃ k : Nat, k ≤ n ∧ i = .int .i64 k ∧ (∀ j, j < k → inB (ls.getD j 0) 0 2 = true) ∧ w = wr) (fun i _ => n - (intOf i).toNat)
  case atStart => exact ⟨0, Nat.zero_le _, rfl, fun j hj => absurd hj (by omega), rfl⟩
  case round =>
    obtain ⟨k, hk, rfl, hgo, rfl⟩ := hrel
    have HG := Lib.hid hgo
    clear hgo
    by_cases hlt : k < n
    · obtain ⟨ad, rfl, hab, hcell⟩ := h.2 (by omega)
      have hc := hcell k hlt
      have i1 : (0 : Int) ≤ (k : Int) := by omega
      have i2 : (k : Int) < (n : Int) := by omega
      have HNK := Lib.hid (HNO.out k hlt)
      have HGK : Hid (inB (ls.getD k 0) 0 2 = true → ∀ j, j < k + 1 → inB (ls.getD j 0) 0 2 = true) := Lib.hid (fun h j hj => by
        by_cases e : j = k
        · subst e; exact h
        · exact HG.out j (by omega))
      clear hcell
      generalize ls.getD k 0 = z at *
      cases g : inB z 0 2
      · have HV := Lib.hid (HNK.out g)
        have G := Lib.hid g
        clear g HGK HNK
        go_wp2_with (go_at_call 54; refine (impl_InRange _ _ _ _).mono ?_; rintro e w' ⟨rfl, rfl⟩; rw [G.out])
        go_ret
        exact ⟨by rw [HV.out]; rfl, rfl⟩
      · have HV := Lib.hid (HGK.out g)
        have G := Lib.hid g
        clear g HGK HNK
        go_wp2_with (go_at_call 54; refine (impl_InRange _ _ _ _).mono ?_; rintro e w' ⟨rfl, rfl⟩; rw [G.out])
        go_roundw
        case rel => exact ⟨k + 1, by omega, by go_num, HV.out, by first | trivial | rfl⟩
        case measure => simp [intOf]; omega
    · obtain rfl : k = n := by omega
      have HR := Lib.hid (HYES.out HG.out)
      go_wp2
      go_ret
      exact ⟨by rw [HR.out]; rfl, by first | trivial | rfl⟩
theorem entOk_shw {zs : List Ent} {k : Nat} (h : shwB (entA zs k).lights = false) : entOk zs k = false := by
  unfold shwB at h
  rw [Bool.and_eq_false_iff] at h
  rcases h with h | h
  · exact entOk_len (by simpa using h)
  · exact entOk_lit h
theorem shwB_parts {ls : List Int} (h : shwB ls = true) : ls.length ≤ 12 ∧ litsOk ls = true := by unfold shwB at h; simpa using h
set_option maxHeartbeats 4000000 in
set_option maxRecDepth 100000 in
theorem impl_isValidE (lo : Nat) (zs : List Ent) (w : World) (k : Nat) (v : Value) (h : LkAt w lo zs (k + 1) v) (hm : (entA zs k).lights.length ≤ 1048576) :
    Calls Try.prog 109 #[v] w fun e w' => e = .returned (.bool (entOk zs k)) ∧ Below w.heap.size w w' := by
  obtain ⟨g, v', A, m, c, rfl, hlo, hg, hi, hnil, hv⟩ := h
  have HE1 : Hid (inB (entA zs k).second 0 1000000 = false → entOk zs k = false) := Lib.hid entOk_sec
  have HE2 : Hid (shwB (entA zs k).lights = false → entOk zs k = false) := Lib.hid entOk_shw
  have HE3 : Hid (k ≠ 0 → ¬ ((entA zs (k - 1)).second < (entA zs k).second ∧ (entA zs k).lights.length = (entA zs (k - 1)).lights.length) → entOk zs k = false) := Lib.hid entOk_beh
  have HE4 : Hid ((entA zs k).mac ≠ sealI (prevM zs k) (entA zs k).second (entA zs k).lights → entOk zs k = false) := Lib.hid entOk_mac
  have HE5 : Hid (inB (entA zs k).second 0 1000000 = true → shwB (entA zs k).lights = true → (k = 0 ∨ ((entA zs (k - 1)).second < (entA zs k).second ∧ (entA zs k).lights.length = (entA zs (k - 1)).lights.length)) → (entA zs k).mac = sealI (prevM zs k) (entA zs k).second (entA zs k).lights → entOk zs k = true) := Lib.hid (fun h1 h2 h4 h5 => entOk_mk h1 (shwB_parts h2).1 (shwB_parts h2).2 h4 h5)
  have hlm := hi.1
  have hsh := impl_areShown A m c _ (entA zs k).lights w hi (by omega)
  have hse := fun y : GW w => impl_SealOf (prevM zs k) (entA zs k).second A m c _ (entA zs k).lights y.val (hi.keep fun p hp => y.ok.cell hp) hnil y.ok.size (by omega)
  have H12 : Hid (shwB (entA zs k).lights = true → m ≤ 12) := Lib.hid (fun h => by have := (shwB_parts h).1; omega)
  have y0 := fun y : GW w => (cells4 ((y.ok.block _ (lt_of_block hg)).trans hg)).1
  have y1 := fun y : GW w => (cells4 ((y.ok.block _ (lt_of_block hg)).trans hg)).2.1
  have y2 := fun y : GW w => (cells4 ((y.ok.block _ (lt_of_block hg)).trans hg)).2.2.1
  have y3 := fun y : GW w => (cells4 ((y.ok.block _ (lt_of_block hg)).trans hg)).2.2.2
  obtain ⟨c0, c1, c2, c3⟩ := cells4 hg
  have ARM : Hid (True) := Lib.hid trivial
  clear hg hi
  cases g1 : inB (entA zs k).second 0 1000000
  · have HV := Lib.hid (HE1.out g1)
    have G1 := Lib.hid g1
    clear g1 HE1 HE2 HE3 HE4 HE5 hsh hse hv y0 y1 y2 y3
    go_enter Try.func109, Try.ntmps109
    go_wp2_with (go_at_call 71; refine (impl_isSecondR _ _).mono ?_; rintro e w' ⟨rfl, rfl⟩; rw [G1.out])
    go_ret
    exact ⟨by rw [HV.out]; rfl, Below.refl _ _⟩
  cases g2 : shwB (entA zs k).lights
  · have HV := Lib.hid (HE2.out g2)
    have G1 := Lib.hid g1
    rw [g2] at hsh
    clear g1 g2 HE1 HE2 HE3 HE4 HE5 hse hv y0 y1 y2 y3
    go_enter Try.func109, Try.ntmps109
    go_wp2_with (first | (go_at_call 71; refine (impl_isSecondR _ _).mono ?_; rintro e w' ⟨rfl, rfl⟩; rw [G1.out]) | (go_at_call 127; refine hsh.mono ?_; rintro e w' ⟨rfl, rfl⟩))
    go_ret
    exact ⟨by rw [HV.out]; rfl, Below.refl _ _⟩
  have hm12 := H12.out g2
  have G1 := Lib.hid g1
  rw [g2] at hsh
  have HE5' := Lib.hid (HE5.out g1 g2)
  clear g1 g2 HE1 HE2 HE5 H12
  rcases k with _ | j
  · have hv' : v' = .pointer none := hv
    subst hv'
    have HP : Hid (prevM zs 0 = 0) := Lib.hid rfl
    rw [HP.out] at hse HE4 HE5'
    have HE5 : Hid ((entA zs 0).mac = sealI 0 (entA zs 0).second (entA zs 0).lights → entOk zs 0 = true) := Lib.hid (fun h => HE5'.out (.inl rfl) h)
    have hsn := fun y : GW w => impl_seal_nil y.val
    clear hv HE3 HE5' HP
    generalize sealI 0 (entA zs 0).second (entA zs 0).lights = r at *
    generalize entOk zs 0 = b at *
    generalize (entA zs 0).second = x0 at *
    generalize (entA zs 0).mac = x2 at *
    generalize (entA zs 0).lights = ls at *
    have ALL : ∀ q : Bool, (x2 == r) = q → b = q := fun q hq => by
      cases q
      · exact HE4.out (by simpa using hq)
      · exact HE5.out (by simpa using hq)
    obtain ⟨q, hq⟩ : ∃ q, (x2 == r) = q := ⟨_, rfl⟩
    have HB := Lib.hid (ALL q hq)
    clear ALL HE4 HE5
    go_enter Try.func109, Try.ntmps109
    go_wp2_with (first | (go_at_call 71; refine (impl_isSecondR _ _).mono ?_; rintro e w' ⟨rfl, rfl⟩; rw [G1.out]) | (go_at_call 127; refine hsh.mono ?_; rintro e w' ⟨rfl, rfl⟩))
    refine wp_region_grow (by kernel_rfl) (by kernel_rfl) ?_
    repeat (go_big_quiet_step (first | fail))
    refine wpQuiet_nil ?_
    intro x3
    have hb3 := x3.ok
    have z0 : ∀ y : GW x3.val, y.val.cell? ⟨g, 0, none⟩ = _ := fun y => y0 ⟨y.val, hb3.trans (y.ok.mono hb3.size)⟩
    have z1 : ∀ y : GW x3.val, y.val.cell? ⟨g, 1, none⟩ = _ := fun y => y1 ⟨y.val, hb3.trans (y.ok.mono hb3.size)⟩
    have z2 : ∀ y : GW x3.val, y.val.cell? ⟨g, 2, none⟩ = _ := fun y => y2 ⟨y.val, hb3.trans (y.ok.mono hb3.size)⟩
    have z3 : ∀ y : GW x3.val, y.val.cell? ⟨g, 3, none⟩ = _ := fun y => y3 ⟨y.val, hb3.trans (y.ok.mono hb3.size)⟩
    have zse := fun y : GW x3.val => hse ⟨y.val, hb3.trans (y.ok.mono hb3.size)⟩
    have zsn := fun y : GW x3.val => hsn ⟨y.val, hb3.trans (y.ok.mono hb3.size)⟩
    simp only at zse zsn
    clear y0 y1 y2 y3 hse hsn c0 c1 c2 c3
    generalize x3.val = w3 at *
    clear x3
    go_wp2
    refine wp_region_grow (by kernel_rfl) (by kernel_rfl) ?_
    repeat (go_big_quiet_step (first | (go_at_call 108; first | with_reducible exact calls_gw_same _ (zsn _)) | (go_at_call 64; first | with_reducible exact calls_gw _ (zse _))))
    refine wpQuiet_nil ?_
    intro x4
    have hb4 := x4.ok
    generalize x4.val = w4 at *
    go_wp2
    go_ret
    exact ⟨by rw [HB.out]; rfl, hb3.trans (hb4.mono hb3.size)⟩
  · obtain ⟨g', v'', A', m', c', rfl, hlo', hg', hi', hnil', hv'⟩ := hv
    have u0 := fun y : GW w => (cells4 ((y.ok.block _ (lt_of_block hg')).trans hg')).1
    have u1 := fun y : GW w => (cells4 ((y.ok.block _ (lt_of_block hg')).trans hg')).2.1
    have hlm' := hi'.1
    have HP : Hid (prevM zs (j + 1) = (entA zs j).mac) := Lib.hid (by unfold prevM; rw [if_neg (by omega), Nat.add_sub_cancel])
    have hsn := fun y : GW w => impl_seal g' _ _ _ _ y.val ((y.ok.block _ (lt_of_block hg')).trans hg')
    rw [HP.out] at hse HE4 HE5'
    have HE3' := Lib.hid (HE3.out (by omega))
    rw [Nat.add_sub_cancel] at HE3' HE5'
    rw [hlm, hlm'] at HE3' HE5'
    clear hv' hg' hi' HE3 HP
    have HE5 : Hid ((entA zs j).second < (entA zs (j + 1)).second → m = m' → (entA zs (j + 1)).mac = sealI (entA zs j).mac (entA zs (j + 1)).second (entA zs (j + 1)).lights → entOk zs (j + 1) = true) := Lib.hid (fun h1 h2 h => HE5'.out (.inr ⟨h1, h2⟩) h)
    clear HE5'
    generalize sealI (entA zs j).mac (entA zs (j + 1)).second (entA zs (j + 1)).lights = r at *
    generalize entOk zs (j + 1) = b at *
    generalize (entA zs (j + 1)).second = x0 at *
    generalize (entA zs (j + 1)).mac = x2 at *
    generalize (entA zs (j + 1)).lights = ls at *
    generalize (entA zs j).second = s0 at *
    generalize (entA zs j).mac = s2 at *
    by_cases h1 : x0 ≤ s0
    · have HB : Hid (b = false) := Lib.hid (HE3'.out (fun h => by have := h.1; omega))
      have d1 : decide (x0 ≤ s0) = true := decide_eq_true h1
      clear HE3' HE4 HE5 hse hsn
      go_enter Try.func109, Try.ntmps109
      go_wp2_with (first | (go_at_call 71; refine (impl_isSecondR _ _).mono ?_; rintro e w' ⟨rfl, rfl⟩; rw [G1.out]) | (go_at_call 127; refine hsh.mono ?_; rintro e w' ⟨rfl, rfl⟩))
      refine wp_region_grow (by kernel_rfl) (by kernel_rfl) ?_
      repeat (go_big_quiet_step (first | fail))
      refine wpQuiet_nil ?_
      intro x3
      have hb3 := x3.ok
      generalize x3.val = w3 at *
      go_wp2
      go_ret
      exact ⟨by rw [HB.out]; rfl, hb3⟩
    have d1 : decide (x0 ≤ s0) = false := decide_eq_false h1
    by_cases h2 : m = m'
    rotate_left
    · have HB : Hid (b = false) := Lib.hid (HE3'.out (fun h => h2 h.2))
      have e2 : ((m : Int) == (m' : Int)) = false := by rw [beq_eq_false_iff_ne]; omega
      have e3 : ((m : Int) != (m' : Int)) = true := by rw [bne_iff_ne]; omega
      clear HE3' HE4 HE5 hse hsn
      go_enter Try.func109, Try.ntmps109
      go_wp2_with (first | (go_at_call 71; refine (impl_isSecondR _ _).mono ?_; rintro e w' ⟨rfl, rfl⟩; rw [G1.out]) | (go_at_call 127; refine hsh.mono ?_; rintro e w' ⟨rfl, rfl⟩))
      refine wp_region_grow (by kernel_rfl) (by kernel_rfl) ?_
      repeat (go_big_quiet_step (first | fail))
      refine wpQuiet_nil ?_
      intro x3
      have hb3 := x3.ok
      generalize x3.val = w3 at *
      go_wp2
      go_ret
      exact ⟨by rw [HB.out]; rfl, hb3⟩
    have e2 : ((m : Int) == (m' : Int)) = true := by rw [beq_iff_eq]; omega
    have e3 : ((m : Int) != (m' : Int)) = false := by rw [bne_eq_false_iff_eq]; omega
    have ALL : ∀ q : Bool, (x2 == r) = q → b = q := fun q hq => by
      cases q
      · exact HE4.out (by simpa using hq)
      · exact HE5.out (by omega) h2 (by simpa using hq)
    obtain ⟨q, hq⟩ : ∃ q, (x2 == r) = q := ⟨_, rfl⟩
    have HB := Lib.hid (ALL q hq)
    clear ALL HE3' HE4 HE5 h2
    go_enter Try.func109, Try.ntmps109
    go_wp2_with (first | (go_at_call 71; refine (impl_isSecondR _ _).mono ?_; rintro e w' ⟨rfl, rfl⟩; rw [G1.out]) | (go_at_call 127; refine hsh.mono ?_; rintro e w' ⟨rfl, rfl⟩))
    refine wp_region_grow (by kernel_rfl) (by kernel_rfl) ?_
    repeat (go_big_quiet_step (first | fail))
    refine wpQuiet_nil ?_
    intro x3
    have hb3 := x3.ok
    have z0 : ∀ y : GW x3.val, y.val.cell? ⟨g, 0, none⟩ = _ := fun y => y0 ⟨y.val, hb3.trans (y.ok.mono hb3.size)⟩
    have z1 : ∀ y : GW x3.val, y.val.cell? ⟨g, 1, none⟩ = _ := fun y => y1 ⟨y.val, hb3.trans (y.ok.mono hb3.size)⟩
    have z2 : ∀ y : GW x3.val, y.val.cell? ⟨g, 2, none⟩ = _ := fun y => y2 ⟨y.val, hb3.trans (y.ok.mono hb3.size)⟩
    have z3 : ∀ y : GW x3.val, y.val.cell? ⟨g, 3, none⟩ = _ := fun y => y3 ⟨y.val, hb3.trans (y.ok.mono hb3.size)⟩
    have zse := fun y : GW x3.val => hse ⟨y.val, hb3.trans (y.ok.mono hb3.size)⟩
    have zsn := fun y : GW x3.val => hsn ⟨y.val, hb3.trans (y.ok.mono hb3.size)⟩
    simp only at zse zsn
    clear y0 y1 y2 y3 hse hsn c0 c1 c2 c3 u0 u1
    generalize x3.val = w3 at *
    clear x3
    go_wp2
    refine wp_region_grow (by kernel_rfl) (by kernel_rfl) ?_
    repeat (go_big_quiet_step (first | (go_at_call 108; first | with_reducible exact calls_gw_same _ (zsn _)) | (go_at_call 64; first | with_reducible exact calls_gw _ (zse _))))
    refine wpQuiet_nil ?_
    intro x4
    have hb4 := x4.ok
    generalize x4.val = w4 at *
    go_wp2
    go_ret
    exact ⟨by rw [HB.out]; rfl, hb3.trans (hb4.mono hb3.size)⟩
theorem LkAt.uniq {w : World} {lo : Nat} {zs : List Ent} : ∀ {k k' : Nat} {v : Value}, LkAt w lo zs k v → LkAt w lo zs k' v → k = k'
  | 0, 0, _, _, _ => rfl
  | 0, k' + 1, v, h, ⟨g, v', A, m, c, e, _⟩ => by
    have h' : v = .pointer none := h
    rw [h'] at e
    injection e with e
    cases e
  | k + 1, 0, v, ⟨g, v', A, m, c, e, _⟩, h => by
    have h' : v = .pointer none := h
    rw [h'] at e
    injection e with e
    cases e
  | k + 1, k' + 1, v, ⟨g, v', A, m, c, e, hl, hg, hi, hn, h⟩, ⟨g2, v2, A2, m2, c2, e2, hl2, hg2, hi2, hn2, h2⟩ => by
    rw [e] at e2
    injection e2 with e2
    injection e2 with e2
    injection e2 with e2
    subst e2
    rw [hg] at hg2
    have e3 : v' = v2 := by
      injection hg2 with hg2
      injection hg2 with hg2
      injection hg2 with hg2
      injection hg2 with _ hg2
      injection hg2 with _ hg2
      injection hg2 with _ hg2
      injection hg2
    subst e3
    rw [LkAt.uniq h h2]
theorem lk_eps {w : World} {lo : Nat} {zs : List Ent} {k : Nat} {v : Value} (h : LkAt w lo zs k v) : Classical.epsilon (fun k => LkAt w lo zs k v) = k := LkAt.uniq (Classical.epsilon_spec (p := fun k => LkAt w lo zs k v) ⟨k, h⟩) h
set_option maxHeartbeats 2000000 in
theorem impl_IsRecord (A : Option Addr) (n c B : Nat) (zs : List Ent) (w : World) (h : EntsAt w B A n zs) (hB : B ≤ w.heap.size) (hn : n ≤ 4294967296) (hm : ∀ j, j < n → (entA zs j).lights.length ≤ 1048576) :
    Calls Try.prog 66 #[.slice A n c] w fun e w' => e = .returned (.bool (isRec zs)) ∧ Below w.heap.size w w' := by
  have hl := h.1
  by_cases h60 : 60 < n
  · have HV := Lib.hid (isRec_long (zs := zs) (by omega))
    have e1 : (n : Int) > 60 := by omega
    go_enter Try.func66, Try.ntmps66
    go_wp2
    go_ret
    exact ⟨by rw [HV.out]; rfl, Below.refl _ _⟩
  have e1 : ¬ (n : Int) > 60 := by omega
  have HEND : Hid ((∀ i, i < n → entOk zs i = true) → isRec zs = true) := Lib.hid (fun hg => by rw [isRec_end (fun i hi => hg i (by omega)), hl, decide_eq_true (by omega)])
  have HNO : Hid (∀ i, i < n → entOk zs i = false → isRec zs = false) := Lib.hid (fun i hi hg => isRec_no (by omega) hg)
  have HC := impl_lastOf A n c B zs w h hB hn
  have HM := Lib.hid hm
  clear hl h hm
  go_enter Try.func66, Try.ntmps66
  go_wp2_with fail
  refine HC.mono ?_
  rintro e w1 ⟨v, rfl, hv, hb1⟩
  obtain ⟨o, rfl⟩ := hv.ptr
  have HV1 := Lib.hid hv
  have HB1 := Lib.hid hb1
  clear HC hv hb1
  go_wp2_with fail
  go_loopw [3] (fun v wr => ∃ k : Nat, k ≤ n ∧ (∃ o, v = .pointer o) ∧ LkAt wr w.heap.size zs k v ∧ (∀ j, k ≤ j → j < n → entOk zs j = true) ∧ Below w.heap.size w wr) (fun v wr => Classical.epsilon (fun k => LkAt wr w.heap.size zs k v))
  case atStart => exact ⟨n, Nat.le_refl _, ⟨_, rfl⟩, HV1.out, fun j hj hj2 => absurd hj2 (by omega), HB1.out⟩
  case round =>
    clear HV1 HB1
    obtain ⟨k, hk, ⟨o', rfl⟩, hv, hgo, hbl⟩ := hrel
    have HG := Lib.hid hgo
    have hep := lk_eps hv
    have HEP := Lib.hid hep
    clear hgo hep
    rcases k with _ | j
    · have hv' : Value.pointer o' = .pointer none := hv
      injection hv' with hv'
      subst hv'
      have HR := Lib.hid (HEND.out (fun i hi => HG.out i (Nat.zero_le _) hi))
      clear hv
      go_wp2_with fail
      go_ret
      exact ⟨by rw [HR.out]; rfl, hbl⟩
    · have hcc := impl_isValidE w.heap.size zs wr j _ hv (HM.out j (by omega))
      have HV := Lib.hid hv
      have hv2 := hv
      obtain ⟨g, v', A', m, c', e0, hlo, hg, hi, hnil, hv'⟩ := hv2
      injection e0 with e0
      subst e0
      obtain ⟨o2, rfl⟩ := hv'.ptr
      have HG2 := Lib.hid hg
      have HV' := Lib.hid hv'
      have HB := Lib.hid hbl
      clear hi hv hv' hbl hg hnil
      cases hr : entOk zs j
      · rw [hr] at hcc
        have HR := Lib.hid (HNO.out j (by omega) hr)
        clear hr
        go_wp2_with fail
        refine hcc.mono ?_
        rintro e w2 ⟨rfl, hb2⟩
        have HB2 := Lib.hid (HB.out.trans (hb2.mono HB.out.size))
        clear hb2 hcc
        go_wp2_with fail
        go_ret
        exact ⟨by rw [HR.out]; rfl, HB2.out⟩
      · rw [hr] at hcc
        have HGK : Hid (∀ i, j ≤ i → i < n → entOk zs i = true) := Lib.hid (fun i h1 h2 => by
          by_cases e : i = j
          · subst e; exact hr
          · exact HG.out i (by omega) h2)
        clear hr
        go_wp2_with fail
        refine hcc.mono ?_
        rintro e w2 ⟨rfl, hb2⟩
        have HB2 := Lib.hid (HB.out.trans (hb2.mono HB.out.size))
        have HV2 := Lib.hid (HV'.out.below hb2)
        obtain ⟨k0, k1, k2, k3⟩ := cells4 ((hb2.block _ (lt_of_block HG2.out)).trans HG2.out)
        clear hb2 hcc
        go_wp2_with fail
        go_roundw
        case rel => exact ⟨j, by omega, ⟨_, rfl⟩, HV2.out, HGK.out, HB2.out⟩
        case measure =>
          have e1 := lk_eps HV2.out
          have e2 := HEP.out
          show Classical.epsilon _ < Classical.epsilon _
          rw [e1, e2]
          omega
end Go.Proofs.Ytlpkafhapmkkfaa

/- Chapter 27: IsRecord of the model (written by genrcd.py). -/
namespace Go.Proofs.Ytlpkafhapmkkfaa
open Go.RowKit
set_option linter.unusedVariables false

set_option maxHeartbeats 8000000 in
set_option maxRecDepth 100000 in
theorem spec_IsRecord (A : Option Addr) (n c B : Nat) (zs : List Ent) (w : World) (h : EntsAt w B A n zs) (hB : B ≤ w.heap.size) (hn : n ≤ 4294967296) (hm : ∀ j, j < n → (entA zs j).lights.length ≤ 1048576) :
    Calls Try.prog 60 #[.slice A n c] w fun e w' => e = .returned (.bool (isRec zs)) ∧ Below w.heap.size w w' := by
  have hl := h.1
  by_cases h60 : 60 < n
  · have HV := Lib.hid (isRec_long (zs := zs) (by omega))
    have e1 : ¬ (n : Int) ≤ 60 := by omega
    have e3 : decide ((n : Int) ≤ 60) = false := decide_eq_false e1
    have e4 : (0 : Int) < (n : Int) := by omega
    have e5 : decide ((0 : Int) < (n : Int)) = true := decide_eq_true e4
    have e6 : 0 < n := by omega
    go_enter Try.func60, Try.ntmps60
    go_wp2
    go_loopw [3, 4] (fun v i wr => v = .int .i64 0 ∧ i = .int .i64 0 ∧ w = wr) (fun _ _ _ => 0)
    case atStart => exact ⟨rfl, rfl, rfl⟩
    case round =>
      obtain ⟨rfl, rfl, rfl⟩ := hrel
      go_wp2
      go_ret
      exact ⟨by rw [HV.out]; rfl, Below.refl _ _⟩
  have e1 : (n : Int) ≤ 60 := by omega
  have e3 : decide ((n : Int) ≤ 60) = true := decide_eq_true e1
  have HEND : Hid ((∀ i, i < n → entOk zs i = true) → isRec zs = true) := Lib.hid (fun hg => by rw [isRec_end (fun i hi => hg i (by omega)), hl, decide_eq_true (by omega)])
  have HNO : Hid (∀ i, i < n → entOk zs i = false → isRec zs = false) := Lib.hid (fun i hi hg => isRec_no (by omega) hg)
  have HM := Lib.hid hm
  clear hl hm
  go_enter Try.func60, Try.ntmps60
  go_wp2
  go_loopw [3, 4] (fun v i wr => ∃ k : Nat, k ≤ n ∧ v = .int .i64 (prevM zs k) ∧ i = .int .i64 k ∧ (∀ j, j < k → entOk zs j = true) ∧ Below w.heap.size w wr) (fun _ i _ => n - (intOf i).toNat)
  case atStart => exact ⟨0, Nat.zero_le _, rfl, rfl, fun j hj => absurd hj (by omega), Below.refl _ _⟩
  case round =>
    obtain ⟨k, hk, rfl, rfl, hgo, hbl⟩ := hrel
    have HG := Lib.hid hgo
    have HBL := Lib.hid hbl
    have hsz := hbl.size
    have hrl := rec_len hgo
    clear hgo
    by_cases hlt : k < n
    · obtain ⟨ad, A', m, c', rfl, hab, hq, hi, hmc, hnil⟩ := h.at hlt
      obtain ⟨ad2, A0, m0, c0', e, hab0, hq0, hi0, hmc0, hnil0⟩ := h.at (j := 0) (by omega)
      injection e with e
      subst e
      have hz0 : ad.add (0 * 3) = ad := by simp [Addr.add]
      rw [hz0] at hq0 hab0
      have i1 : (0 : Int) ≤ (k : Int) := by omega
      have i2 : (k : Int) < (n : Int) := by omega
      have i3 : decide ((k : Int) < (n : Int)) = true := decide_eq_true i2
      have i4 : (0 : Int) < (n : Int) := by omega
      have hlm := hi.1
      have hlm0 := hi0.1
      have hmk := HM.out k hlt
      have hqq := hq.below hbl (by omega)
      have hqq0 := hq0.below hbl (by omega)
      have hcn : (ad.add (k * 3)).block < wr.heap.size := by omega
      have hcn0 : ad.block < wr.heap.size := by omega
      have y0 := fun y : GW wr => (hqq.below y.ok hcn).c0
      have y1 := fun y : GW wr => (hqq.below y.ok hcn).c1
      have y2 := fun y : GW wr => (hqq.below y.ok hcn).c2
      have v1 := fun y : GW wr => (hqq0.below y.ok hcn0).c1
      have hiw := hi.keep (w' := wr) (fun p hp => hbl.cell (by omega))
      have hse := fun y : GW wr => spec_SealOf (prevM zs k) (entA zs k).second A' m c' B (entA zs k).lights y.val (hiw.keep fun p hp => y.ok.cell (by omega)) hnil (by have := y.ok.size; omega) (by omega)
      have hmm : (∀ j, j < k → m = m0 ∨ True) := fun _ _ => .inr trivial
      have HL0 : Hid (k = 0 → m = m0) := Lib.hid (fun e => by subst e; omega)
      have HLP : Hid (k ≠ 0 → (entA zs (k - 1)).lights.length = m0) := Lib.hid (fun e => by rw [hrl (k - 1) (by omega)]; exact hlm0)
      have HE1 : Hid (inB (entA zs k).second 0 1000000 = false → isRec zs = false) := Lib.hid (fun e => HNO.out k hlt (entOk_sec e))
      have HE2 : Hid (12 < m → isRec zs = false) := Lib.hid (fun e => HNO.out k hlt (entOk_len (by omega)))
      have HE3 : Hid (m ≠ m0 → isRec zs = false) := Lib.hid (fun e => HNO.out k hlt (by
        by_cases hk0 : k = 0
        · exact absurd (HL0.out hk0) e
        · exact entOk_beh hk0 (fun h => e (by have := HLP.out hk0; have := h.2; omega))))
      have HE4 : Hid ((entA zs k).mac ≠ sealI (prevM zs k) (entA zs k).second (entA zs k).lights → isRec zs = false) := Lib.hid (fun e => HNO.out k hlt (entOk_mac e))
      have HE5 : Hid (k ≠ 0 → ¬ (entA zs (k - 1)).second < (entA zs k).second → isRec zs = false) := Lib.hid (fun e e2 => HNO.out k hlt (entOk_beh e (fun h => e2 h.1)))
      have HE6 : Hid (litsOk (entA zs k).lights = false → isRec zs = false) := Lib.hid (fun e => HNO.out k hlt (entOk_lit e))
      have HOK : Hid (inB (entA zs k).second 0 1000000 = true → m ≤ 12 → m = m0 → (entA zs k).mac = sealI (prevM zs k) (entA zs k).second (entA zs k).lights → (k = 0 ∨ (entA zs (k - 1)).second < (entA zs k).second) → litsOk (entA zs k).lights = true → ∀ j, j < k + 1 → entOk zs j = true) := Lib.hid (fun h1 h2 h3 h4 h5 h6 j hj => by
        by_cases e : j = k
        · subst e
          refine entOk_mk h1 (by omega) h6 ?_ h4
          by_cases hk0 : j = 0
          · exact .inl hk0
          · rcases h5 with h5 | h5
            · exact .inl h5
            · exact .inr ⟨h5, by rw [HLP.out hk0]; omega⟩
        · exact HG.out j (by omega))
      have HPM : Hid (prevM zs (k + 1) = (entA zs k).mac) := Lib.hid (by unfold prevM; rw [if_neg (by omega), Nat.add_sub_cancel])
      have HI := Lib.hid hiw
      have HLN : Hid ((∀ j, j < m → inB ((entA zs k).lights.getD j 0) 0 2 = true) → litsOk (entA zs k).lights = true) := Lib.hid (fun h => litsOk_yes (fun j hj => h j (by omega)))
      have HLF : Hid (∀ j, j < m → inB ((entA zs k).lights.getD j 0) 0 2 = false → litsOk (entA zs k).lights = false) := Lib.hid (fun j hj h => litsOk_no (by omega) h)
      have hpr : k ≠ 0 → ∃ m : Nat, m + 1 = k := fun e => ⟨k - 1, by omega⟩
      have H1 := Lib.hid h
      clear hi hi0 hq hq0 hqq0 hiw hrl hmm hz0 hmc hmc0 hnil hnil0
      generalize hr : sealI (prevM zs k) (entA zs k).second (entA zs k).lights = r at *
      clear hr
      have hin := fun y : GW wr => spec_l1In (entA zs k).second 0 1000000 y.val
      cases g1 : inB (entA zs k).second 0 1000000
      · have HV := Lib.hid (HE1.out g1)
        rw [g1] at hin
        clear g1 HE1 HE2 HE3 HE4 HE5 HE6 HOK HPM HLN HLF hpr
        go_wp2
        refine wp_region_grow (by kernel_rfl) (by kernel_rfl) ?_
        repeat (go_big_quiet_step (first | (go_at_call 58; first | with_reducible exact calls_gw _ (hse _))))
        refine wpQuiet_nil ?_
        intro x3
        have hb3 := x3.ok
        have z0 : ∀ y : GW x3.val, y.val.cell? (ad.add (k * 3)) = _ := fun y => y0 ⟨y.val, hb3.trans (y.ok.mono hb3.size)⟩
        have z1 : ∀ y : GW x3.val, y.val.cell? ⟨(ad.add (k * 3)).block, (ad.add (k * 3)).off + 1, none⟩ = _ := fun y => y1 ⟨y.val, hb3.trans (y.ok.mono hb3.size)⟩
        have z2 : ∀ y : GW x3.val, y.val.cell? ⟨(ad.add (k * 3)).block, (ad.add (k * 3)).off + 2, none⟩ = _ := fun y => y2 ⟨y.val, hb3.trans (y.ok.mono hb3.size)⟩
        have u1 : ∀ y : GW x3.val, y.val.cell? ⟨ad.block, ad.off + 1, none⟩ = _ := fun y => v1 ⟨y.val, hb3.trans (y.ok.mono hb3.size)⟩
        have zin := fun y : GW x3.val => hin ⟨y.val, hb3.trans (y.ok.mono hb3.size)⟩
        simp only at zin
        clear y0 y1 y2 v1 hse hin
        have HB3 := Lib.hid (HBL.out.trans (hb3.mono hsz))
        clear hb3
        generalize x3.val = w3 at *
        clear x3
        go_wp2
        refine wp_region_grow (by kernel_rfl) (by kernel_rfl) ?_
        repeat (go_big_quiet_step (first | (go_at_call 51; first | with_reducible exact calls_gw_same _ (zin _))))
        refine wpQuiet_nil ?_
        intro x4
        have hb4 := x4.ok
        have HB4 := Lib.hid (HB3.out.trans (hb4.mono HB3.out.size))

        generalize x4.val = w4 at *
        go_wp2
        go_ret
        exact ⟨by rw [HV.out]; rfl, HB4.out⟩
      have G1 := Lib.hid g1
      rw [g1] at hin
      clear g1
      by_cases g2 : 12 < m
      · have HV := Lib.hid (HE2.out g2)
        have d1 : (m : Int) > 12 := by omega
        have d2 : decide (12 < (m : Int)) = true := decide_eq_true (by omega)
        have d3 : decide (12 < m) = true := decide_eq_true (by omega)
        clear HE1 HE2 HE3 HE4 HE5 HE6 HOK HPM HLN HLF hpr
        go_wp2
        refine wp_region_grow (by kernel_rfl) (by kernel_rfl) ?_
        repeat (go_big_quiet_step (first | (go_at_call 58; first | with_reducible exact calls_gw _ (hse _))))
        refine wpQuiet_nil ?_
        intro x3
        have hb3 := x3.ok
        have z0 : ∀ y : GW x3.val, y.val.cell? (ad.add (k * 3)) = _ := fun y => y0 ⟨y.val, hb3.trans (y.ok.mono hb3.size)⟩
        have z1 : ∀ y : GW x3.val, y.val.cell? ⟨(ad.add (k * 3)).block, (ad.add (k * 3)).off + 1, none⟩ = _ := fun y => y1 ⟨y.val, hb3.trans (y.ok.mono hb3.size)⟩
        have z2 : ∀ y : GW x3.val, y.val.cell? ⟨(ad.add (k * 3)).block, (ad.add (k * 3)).off + 2, none⟩ = _ := fun y => y2 ⟨y.val, hb3.trans (y.ok.mono hb3.size)⟩
        have u1 : ∀ y : GW x3.val, y.val.cell? ⟨ad.block, ad.off + 1, none⟩ = _ := fun y => v1 ⟨y.val, hb3.trans (y.ok.mono hb3.size)⟩
        have zin := fun y : GW x3.val => hin ⟨y.val, hb3.trans (y.ok.mono hb3.size)⟩
        simp only at zin
        clear y0 y1 y2 v1 hse hin
        have HB3 := Lib.hid (HBL.out.trans (hb3.mono hsz))
        clear hb3
        generalize x3.val = w3 at *
        clear x3
        go_wp2
        refine wp_region_grow (by kernel_rfl) (by kernel_rfl) ?_
        repeat (go_big_quiet_step (first | (go_at_call 51; first | with_reducible exact calls_gw_same _ (zin _))))
        refine wpQuiet_nil ?_
        intro x4
        have hb4 := x4.ok
        have HB4 := Lib.hid (HB3.out.trans (hb4.mono HB3.out.size))

        generalize x4.val = w4 at *
        go_wp2
        go_ret
        exact ⟨by rw [HV.out]; rfl, HB4.out⟩
      have d1 : ¬ (m : Int) > 12 := by omega
      have d2 : decide (12 < (m : Int)) = false := decide_eq_false (by omega)
      have d3 : decide (12 < m) = false := decide_eq_false (by omega)
      by_cases g3 : m = m0
      rotate_left
      · have HV := Lib.hid (HE3.out g3)
        have d4 : ((m : Int) == (m0 : Int)) = false := by rw [beq_eq_false_iff_ne]; omega
        have d5 : ((m : Int) != (m0 : Int)) = true := by rw [bne_iff_ne]; omega
        clear HE1 HE2 HE3 HE4 HE5 HE6 HOK HPM HLN HLF hpr
        go_wp2
        refine wp_region_grow (by kernel_rfl) (by kernel_rfl) ?_
        repeat (go_big_quiet_step (first | (go_at_call 58; first | with_reducible exact calls_gw _ (hse _))))
        refine wpQuiet_nil ?_
        intro x3
        have hb3 := x3.ok
        have z0 : ∀ y : GW x3.val, y.val.cell? (ad.add (k * 3)) = _ := fun y => y0 ⟨y.val, hb3.trans (y.ok.mono hb3.size)⟩
        have z1 : ∀ y : GW x3.val, y.val.cell? ⟨(ad.add (k * 3)).block, (ad.add (k * 3)).off + 1, none⟩ = _ := fun y => y1 ⟨y.val, hb3.trans (y.ok.mono hb3.size)⟩
        have z2 : ∀ y : GW x3.val, y.val.cell? ⟨(ad.add (k * 3)).block, (ad.add (k * 3)).off + 2, none⟩ = _ := fun y => y2 ⟨y.val, hb3.trans (y.ok.mono hb3.size)⟩
        have u1 : ∀ y : GW x3.val, y.val.cell? ⟨ad.block, ad.off + 1, none⟩ = _ := fun y => v1 ⟨y.val, hb3.trans (y.ok.mono hb3.size)⟩
        have zin := fun y : GW x3.val => hin ⟨y.val, hb3.trans (y.ok.mono hb3.size)⟩
        simp only at zin
        clear y0 y1 y2 v1 hse hin
        have HB3 := Lib.hid (HBL.out.trans (hb3.mono hsz))
        clear hb3
        generalize x3.val = w3 at *
        clear x3
        go_wp2
        refine wp_region_grow (by kernel_rfl) (by kernel_rfl) ?_
        repeat (go_big_quiet_step (first | (go_at_call 51; first | with_reducible exact calls_gw_same _ (zin _))))
        refine wpQuiet_nil ?_
        intro x4
        have hb4 := x4.ok
        have HB4 := Lib.hid (HB3.out.trans (hb4.mono HB3.out.size))

        generalize x4.val = w4 at *
        go_wp2
        go_ret
        exact ⟨by rw [HV.out]; rfl, HB4.out⟩
      have d4 : ((m : Int) == (m0 : Int)) = true := by rw [beq_iff_eq]; omega
      have d5 : ((m : Int) != (m0 : Int)) = false := by rw [bne_eq_false_iff_eq]; omega
      have G3 := Lib.hid g3
      clear g3
      by_cases g4 : (entA zs k).mac = r
      rotate_left
      · have HV := Lib.hid (HE4.out g4)
        have d6 : ((entA zs k).mac == r) = false := by rw [beq_eq_false_iff_ne]; exact g4
        have d7 : ((entA zs k).mac != r) = true := by rw [bne_iff_ne]; exact g4
        clear HE1 HE2 HE3 HE4 HE5 HE6 HOK HPM HLN HLF hpr
        go_wp2
        refine wp_region_grow (by kernel_rfl) (by kernel_rfl) ?_
        repeat (go_big_quiet_step (first | (go_at_call 58; first | with_reducible exact calls_gw _ (hse _))))
        refine wpQuiet_nil ?_
        intro x3
        have hb3 := x3.ok
        have z0 : ∀ y : GW x3.val, y.val.cell? (ad.add (k * 3)) = _ := fun y => y0 ⟨y.val, hb3.trans (y.ok.mono hb3.size)⟩
        have z1 : ∀ y : GW x3.val, y.val.cell? ⟨(ad.add (k * 3)).block, (ad.add (k * 3)).off + 1, none⟩ = _ := fun y => y1 ⟨y.val, hb3.trans (y.ok.mono hb3.size)⟩
        have z2 : ∀ y : GW x3.val, y.val.cell? ⟨(ad.add (k * 3)).block, (ad.add (k * 3)).off + 2, none⟩ = _ := fun y => y2 ⟨y.val, hb3.trans (y.ok.mono hb3.size)⟩
        have u1 : ∀ y : GW x3.val, y.val.cell? ⟨ad.block, ad.off + 1, none⟩ = _ := fun y => v1 ⟨y.val, hb3.trans (y.ok.mono hb3.size)⟩
        have zin := fun y : GW x3.val => hin ⟨y.val, hb3.trans (y.ok.mono hb3.size)⟩
        simp only at zin
        clear y0 y1 y2 v1 hse hin
        have HB3 := Lib.hid (HBL.out.trans (hb3.mono hsz))
        clear hb3
        generalize x3.val = w3 at *
        clear x3
        go_wp2
        refine wp_region_grow (by kernel_rfl) (by kernel_rfl) ?_
        repeat (go_big_quiet_step (first | (go_at_call 51; first | with_reducible exact calls_gw_same _ (zin _))))
        refine wpQuiet_nil ?_
        intro x4
        have hb4 := x4.ok
        have HB4 := Lib.hid (HB3.out.trans (hb4.mono HB3.out.size))

        generalize x4.val = w4 at *
        go_wp2
        go_ret
        exact ⟨by rw [HV.out]; rfl, HB4.out⟩
      have d6 : ((entA zs k).mac == r) = true := by rw [beq_iff_eq]; exact g4
      have d7 : ((entA zs k).mac != r) = false := by rw [bne_eq_false_iff_eq]; exact g4
      have HRM : Hid (Value.int .i64 r = Value.int .i64 (prevM zs (k + 1))) := Lib.hid (by rw [HPM.out, g4])
      have HOK2 : Hid ((k = 0 ∨ (entA zs (k - 1)).second < (entA zs k).second) → litsOk (entA zs k).lights = true → ∀ j, j < k + 1 → entOk zs j = true) := Lib.hid (fun b c => HOK.out G1.out (by omega) G3.out g4 b c)
      clear g4 HOK HPM
      by_cases g5 : k = 0
      · have HOK3 : Hid (litsOk (entA zs k).lights = true → ∀ j, j < k + 1 → entOk zs j = true) := Lib.hid (fun c => HOK2.out (.inl g5) c)
        have d8 : decide ((0 : Int) < (k : Int)) = false := decide_eq_false (by omega)
        have d9 : decide (0 < k) = false := decide_eq_false (by omega)
        have d10 : ¬ (k : Int) > 0 := by omega
        clear g5 HOK2 hpr
        go_wp2
        refine wp_region_grow (by kernel_rfl) (by kernel_rfl) ?_
        repeat (go_big_quiet_step (first | (go_at_call 58; first | with_reducible exact calls_gw _ (hse _))))
        refine wpQuiet_nil ?_
        intro x3
        have hb3 := x3.ok
        have z0 : ∀ y : GW x3.val, y.val.cell? (ad.add (k * 3)) = _ := fun y => y0 ⟨y.val, hb3.trans (y.ok.mono hb3.size)⟩
        have z1 : ∀ y : GW x3.val, y.val.cell? ⟨(ad.add (k * 3)).block, (ad.add (k * 3)).off + 1, none⟩ = _ := fun y => y1 ⟨y.val, hb3.trans (y.ok.mono hb3.size)⟩
        have z2 : ∀ y : GW x3.val, y.val.cell? ⟨(ad.add (k * 3)).block, (ad.add (k * 3)).off + 2, none⟩ = _ := fun y => y2 ⟨y.val, hb3.trans (y.ok.mono hb3.size)⟩
        have u1 : ∀ y : GW x3.val, y.val.cell? ⟨ad.block, ad.off + 1, none⟩ = _ := fun y => v1 ⟨y.val, hb3.trans (y.ok.mono hb3.size)⟩
        have zin := fun y : GW x3.val => hin ⟨y.val, hb3.trans (y.ok.mono hb3.size)⟩
        simp only at zin
        clear y0 y1 y2 v1 hse hin
        have HB3 := Lib.hid (HBL.out.trans (hb3.mono hsz))
        have HB3R := Lib.hid hb3
        clear hb3
        generalize x3.val = w3 at *
        clear x3
        go_wp2
        refine wp_region_grow (by kernel_rfl) (by kernel_rfl) ?_
        repeat (go_big_quiet_step (first | (go_at_call 51; first | with_reducible exact calls_gw_same _ (zin _))))
        refine wpQuiet_nil ?_
        intro x4
        have hb4 := x4.ok
        have HB4 := Lib.hid (HB3.out.trans (hb4.mono HB3.out.size))

        have x1 : x4.val.cell? ⟨(ad.add (k * 3)).block, (ad.add (k * 3)).off + 1, none⟩ = some (.slice A' m c') := z1 ⟨x4.val, hb4⟩
        have X1 := Lib.hid x1
        clear z0 z1 z2 u1 zin x1 HE1 HE2 HE3 HE4 HE5
        have HW4 := Lib.hid (HI.out.keep (w' := x4.val) (fun p hp => (HB3R.out.trans (hb4.mono HB3R.out.size)).cell (by omega)))
        clear hb4
        generalize x4.val = w4 at *
        clear x4
        have lt4 : (ad.add (k * 3)).block < w4.heap.size := by have := HB4.out.size; omega
        go_wp2_with fail
        go_loopw [5] (fun i wq => ∃ j : Nat, j ≤ m ∧ i = .int .i64 j ∧ (∀ q, q < j → inB ((entA zs k).lights.getD q 0) 0 2 = true) ∧ w4 = wq) (fun i _ => m - (intOf i).toNat)
        case atStart => exact ⟨0, Nat.zero_le _, rfl, fun j hj => absurd hj (by omega), rfl⟩
        case round =>
          obtain ⟨j, hj, rfl, hjo, rfl⟩ := hrel
          have HJ := Lib.hid hjo
          have x1 := X1.out
          clear hjo
          by_cases hjl : j < m
          · obtain ⟨ad3, rfl, hab3, hcell⟩ := HW4.out.2 (by omega)
            have hcj := hcell j hjl
            have j1 : (0 : Int) ≤ (j : Int) := by omega
            have j2 : (j : Int) < (m : Int) := by omega
            have HJK : Hid (inB ((entA zs k).lights.getD j 0) 0 2 = true → ∀ q, q < j + 1 → inB ((entA zs k).lights.getD q 0) 0 2 = true) := Lib.hid (fun h q hq => by
              by_cases e : q = j
              · subst e; exact h
              · exact HJ.out q (by omega))
            have HJF := Lib.hid (fun e => HE6.out (HLF.out j hjl e))
            clear hcell
            generalize (entA zs k).lights.getD j 0 = z at *
            cases g : inB z 0 2
            · have HV := Lib.hid (HJF.out g)
              have G := Lib.hid g
              clear g HJK HJF
              go_wp2_with (go_at_call 51; refine (spec_l1In _ _ _ _).mono ?_; rintro e w' ⟨rfl, rfl⟩; rw [G.out])
              go_ret
              exact ⟨by rw [HV.out]; rfl, HB4.out⟩
            · have HV := Lib.hid (HJK.out g)
              have G := Lib.hid g
              clear g HJK HJF
              go_wp2_with (go_at_call 51; refine (spec_l1In _ _ _ _).mono ?_; rintro e w' ⟨rfl, rfl⟩; rw [G.out])
              go_roundw
              case rel => exact ⟨j + 1, by omega, by go_num, HV.out, by first | trivial | rfl⟩
              case measure => simp [intOf]; omega
          · obtain rfl : j = m := by omega
            have HF := Lib.hid (HOK3.out (HLN.out HJ.out))
            go_wp2_with fail
            go_roundw
            case rel => exact ⟨k + 1, by omega, HRM.out, by go_num, HF.out, HB4.out⟩
            case measure => simp [intOf]; omega
      have d8 : decide ((0 : Int) < (k : Int)) = true := decide_eq_true (by omega)
      have d9 : decide (0 < k) = true := decide_eq_true (by omega)
      have d10 : (k : Int) > 0 := by omega
      obtain ⟨q, hqk⟩ := hpr g5
      obtain ⟨ad2, Ap, mp, cp, e, habp, hqp, -, -, -⟩ := H1.out.at (j := q) (by omega)
      injection e with e
      subst e
      have hcnp : (ad.add (q * 3)).block < wr.heap.size := by omega
      have hqqp := hqp.below HBL.out (by omega)
      have p0 := fun y : GW wr => (hqqp.below y.ok hcnp).c0
      have m1 : (0 : Int) ≤ (q : Int) := by omega
      have m2 : (q : Int) < (n : Int) := by omega
      have wq1 : IntKind.i64.wrap ((k : Int) - 1) = (q : Int) := by rw [IntKind.wrap_i64]; omega
      have wq2 : wrap64 ((k : Int) - 1) = (q : Int) := by rw [IntWalk.wrap64_in _ (by omega)]; omega
      have HK1 : Hid (entA zs (k - 1) = entA zs q) := Lib.hid (by rw [← hqk, Nat.add_sub_cancel])
      rw [HK1.out] at HOK2 HE5
      have HE5' := Lib.hid (HE5.out g5)
      clear hqk hqp hqqp hpr HK1
      by_cases g6 : (entA zs q).second < (entA zs k).second
      rotate_left
      · have HV := Lib.hid (HE5'.out g6)
        have d11 : decide ((entA zs k).second ≤ (entA zs q).second) = true := decide_eq_true (by omega)
        have d12 : (entA zs q).second ≥ (entA zs k).second := by omega
        clear g5 g6 HE1 HE2 HE3 HE4 HE5 HE5' HE6 HOK2 HLN HLF HRM
        go_wp2
        refine wp_region_grow (by kernel_rfl) (by kernel_rfl) ?_
        repeat (go_big_quiet_step (first | (go_at_call 58; first | with_reducible exact calls_gw _ (hse _))))
        refine wpQuiet_nil ?_
        intro x3
        have hb3 := x3.ok
        have z0 : ∀ y : GW x3.val, y.val.cell? (ad.add (k * 3)) = _ := fun y => y0 ⟨y.val, hb3.trans (y.ok.mono hb3.size)⟩
        have z1 : ∀ y : GW x3.val, y.val.cell? ⟨(ad.add (k * 3)).block, (ad.add (k * 3)).off + 1, none⟩ = _ := fun y => y1 ⟨y.val, hb3.trans (y.ok.mono hb3.size)⟩
        have z2 : ∀ y : GW x3.val, y.val.cell? ⟨(ad.add (k * 3)).block, (ad.add (k * 3)).off + 2, none⟩ = _ := fun y => y2 ⟨y.val, hb3.trans (y.ok.mono hb3.size)⟩
        have u1 : ∀ y : GW x3.val, y.val.cell? ⟨ad.block, ad.off + 1, none⟩ = _ := fun y => v1 ⟨y.val, hb3.trans (y.ok.mono hb3.size)⟩
        have zp : ∀ y : GW x3.val, y.val.cell? (ad.add (q * 3)) = _ := fun y => p0 ⟨y.val, hb3.trans (y.ok.mono hb3.size)⟩
        have zin := fun y : GW x3.val => hin ⟨y.val, hb3.trans (y.ok.mono hb3.size)⟩
        simp only at zin
        clear y0 y1 y2 v1 hse hin p0
        have HB3 := Lib.hid (HBL.out.trans (hb3.mono hsz))
        clear hb3
        generalize x3.val = w3 at *
        clear x3
        go_wp2
        refine wp_region_grow (by kernel_rfl) (by kernel_rfl) ?_
        repeat (go_big_quiet_step (first | (go_at_call 51; first | with_reducible exact calls_gw_same _ (zin _))))
        refine wpQuiet_nil ?_
        intro x4
        have hb4 := x4.ok
        have HB4 := Lib.hid (HB3.out.trans (hb4.mono HB3.out.size))

        generalize x4.val = w4 at *
        go_wp2
        go_ret
        exact ⟨by rw [HV.out]; rfl, HB4.out⟩
      have HOK3 : Hid (litsOk (entA zs k).lights = true → ∀ j, j < k + 1 → entOk zs j = true) := Lib.hid (fun c => HOK2.out (.inr g6) c)
      have d11 : decide ((entA zs k).second ≤ (entA zs q).second) = false := decide_eq_false (by omega)
      have d12 : ¬ (entA zs q).second ≥ (entA zs k).second := by omega
      clear g5 g6 HOK2 HE5'
      go_wp2
      refine wp_region_grow (by kernel_rfl) (by kernel_rfl) ?_
      repeat (go_big_quiet_step (first | (go_at_call 58; first | with_reducible exact calls_gw _ (hse _))))
      refine wpQuiet_nil ?_
      intro x3
      have hb3 := x3.ok
      have z0 : ∀ y : GW x3.val, y.val.cell? (ad.add (k * 3)) = _ := fun y => y0 ⟨y.val, hb3.trans (y.ok.mono hb3.size)⟩
      have z1 : ∀ y : GW x3.val, y.val.cell? ⟨(ad.add (k * 3)).block, (ad.add (k * 3)).off + 1, none⟩ = _ := fun y => y1 ⟨y.val, hb3.trans (y.ok.mono hb3.size)⟩
      have z2 : ∀ y : GW x3.val, y.val.cell? ⟨(ad.add (k * 3)).block, (ad.add (k * 3)).off + 2, none⟩ = _ := fun y => y2 ⟨y.val, hb3.trans (y.ok.mono hb3.size)⟩
      have u1 : ∀ y : GW x3.val, y.val.cell? ⟨ad.block, ad.off + 1, none⟩ = _ := fun y => v1 ⟨y.val, hb3.trans (y.ok.mono hb3.size)⟩
      have zp : ∀ y : GW x3.val, y.val.cell? (ad.add (q * 3)) = _ := fun y => p0 ⟨y.val, hb3.trans (y.ok.mono hb3.size)⟩
      have zin := fun y : GW x3.val => hin ⟨y.val, hb3.trans (y.ok.mono hb3.size)⟩
      simp only at zin
      clear y0 y1 y2 v1 hse hin p0
      have HB3 := Lib.hid (HBL.out.trans (hb3.mono hsz))
      have HB3R := Lib.hid hb3
      clear hb3
      generalize x3.val = w3 at *
      clear x3
      go_wp2
      refine wp_region_grow (by kernel_rfl) (by kernel_rfl) ?_
      repeat (go_big_quiet_step (first | (go_at_call 51; first | with_reducible exact calls_gw_same _ (zin _))))
      refine wpQuiet_nil ?_
      intro x4
      have hb4 := x4.ok
      have HB4 := Lib.hid (HB3.out.trans (hb4.mono HB3.out.size))

      have x1 : x4.val.cell? ⟨(ad.add (k * 3)).block, (ad.add (k * 3)).off + 1, none⟩ = some (.slice A' m c') := z1 ⟨x4.val, hb4⟩
      have X1 := Lib.hid x1
      clear z0 z1 z2 u1 zin x1 HE1 HE2 HE3 HE4 HE5 zp
      have HW4 := Lib.hid (HI.out.keep (w' := x4.val) (fun p hp => (HB3R.out.trans (hb4.mono HB3R.out.size)).cell (by omega)))
      clear hb4
      generalize x4.val = w4 at *
      clear x4
      have lt4 : (ad.add (k * 3)).block < w4.heap.size := by have := HB4.out.size; omega
      go_wp2_with fail
      go_loopw [5] (fun i wq => ∃ j : Nat, j ≤ m ∧ i = .int .i64 j ∧ (∀ q, q < j → inB ((entA zs k).lights.getD q 0) 0 2 = true) ∧ w4 = wq) (fun i _ => m - (intOf i).toNat)
      case atStart => exact ⟨0, Nat.zero_le _, rfl, fun j hj => absurd hj (by omega), rfl⟩
      case round =>
        obtain ⟨j, hj, rfl, hjo, rfl⟩ := hrel
        have HJ := Lib.hid hjo
        have x1 := X1.out
        clear hjo
        by_cases hjl : j < m
        · obtain ⟨ad3, rfl, hab3, hcell⟩ := HW4.out.2 (by omega)
          have hcj := hcell j hjl
          have j1 : (0 : Int) ≤ (j : Int) := by omega
          have j2 : (j : Int) < (m : Int) := by omega
          have HJK : Hid (inB ((entA zs k).lights.getD j 0) 0 2 = true → ∀ q, q < j + 1 → inB ((entA zs k).lights.getD q 0) 0 2 = true) := Lib.hid (fun h q hq => by
            by_cases e : q = j
            · subst e; exact h
            · exact HJ.out q (by omega))
          have HJF := Lib.hid (fun e => HE6.out (HLF.out j hjl e))
          clear hcell
          generalize (entA zs k).lights.getD j 0 = z at *
          cases g : inB z 0 2
          · have HV := Lib.hid (HJF.out g)
            have G := Lib.hid g
            clear g HJK HJF
            go_wp2_with (go_at_call 51; refine (spec_l1In _ _ _ _).mono ?_; rintro e w' ⟨rfl, rfl⟩; rw [G.out])
            go_ret
            exact ⟨by rw [HV.out]; rfl, HB4.out⟩
          · have HV := Lib.hid (HJK.out g)
            have G := Lib.hid g
            clear g HJK HJF
            go_wp2_with (go_at_call 51; refine (spec_l1In _ _ _ _).mono ?_; rintro e w' ⟨rfl, rfl⟩; rw [G.out])
            go_roundw
            case rel => exact ⟨j + 1, by omega, by go_num, HV.out, by first | trivial | rfl⟩
            case measure => simp [intOf]; omega
        · obtain rfl : j = m := by omega
          have HF := Lib.hid (HOK3.out (HLN.out HJ.out))
          go_wp2_with fail
          go_roundw
          case rel => exact ⟨k + 1, by omega, HRM.out, by go_num, HF.out, HB4.out⟩
          case measure => simp [intOf]; omega
    · obtain rfl : k = n := by omega
      have HR := Lib.hid (HEND.out HG.out)
      have i3 : decide ((k : Int) < (k : Int)) = false := decide_eq_false (by omega)
      go_wp2
      go_ret
      exact ⟨by rw [HR.out]; rfl, hbl⟩
end Go.Proofs.Ytlpkafhapmkkfaa

/- Chapter 27: AddEntry: the program and the model. -/
namespace Go.Proofs.Ytlpkafhapmkkfaa
open Go.RowKit
set_option linter.unusedVariables false
set_option linter.unusedSimpArgs false

/-- what AddEntry answers. -/
def addE (zs : List Ent) (s : Int) (ls : List Int) : List Ent × Bool :=
  if isRec (zs ++ [⟨s, ls, sealI (lastSl zs) s ls⟩]) then (zs ++ [⟨s, ls, sealI (lastSl zs) s ls⟩], true) else (zs, false)
theorem addE_yes {zs : List Ent} {s : Int} {ls : List Int} (h : isRec (zs ++ [⟨s, ls, sealI (lastSl zs) s ls⟩]) = true) : addE zs s ls = (zs ++ [⟨s, ls, sealI (lastSl zs) s ls⟩], true) := by unfold addE; rw [if_pos h]
theorem addE_no {zs : List Ent} {s : Int} {ls : List Int} (h : isRec (zs ++ [⟨s, ls, sealI (lastSl zs) s ls⟩]) = false) : addE zs s ls = (zs, false) := by unfold addE; rw [if_neg (by rw [h]; decide)]
theorem isRec_small {zs : List Ent} (h : isRec zs = true) : SmallEnt zs := by
  obtain ⟨h1, h2⟩ := isRec_parts h
  exact ⟨by omega, fun j hj => by have := (entOk_parts (h2 j hj)).1.2.1; omega⟩
theorem addE_small {zs : List Ent} {s : Int} {ls : List Int} (h : SmallEnt zs) : SmallEnt (addE zs s ls).1 := by
  unfold addE
  split
  · rename_i e; exact isRec_small e
  · exact h
theorem entA_app1 {zs : List Ent} {e : Ent} {j : Nat} (h : j < zs.length) : entA (zs ++ [e]) j = entA zs j := entA_some (by rw [List.getElem?_append_left h]; exact entA_get h)
theorem entA_app2 {zs : List Ent} {e : Ent} : entA (zs ++ [e]) zs.length = e := entA_some (by rw [List.getElem?_append_right (Nat.le_refl _), Nat.sub_self]; rfl)
/-- one entry more, behind the others. -/
theorem OwnEnt.push {w w' : World} {lo b : Nat} {v v' : Value} {xs : List (Value × Ent)} {ps : List Ent} {u : Value} {e : Ent} (h : OwnEnt w lo v xs ps) (hu : Own .i64 3 w lo u e.lights) (hb : ∀ x ∈ xs, ∀ r, x.1.ownBlock = some r → r < b) (hn : ∀ r, u.ownBlock = some r → b ≤ r)
    (hrow : w'.ownsRow lo 84 3 v' (ps.length + 1) (entrow xs ++ [.int .i64 e.second, u, .int .i64 e.mac])) (hg : w.grownBy w' v.ownBlock) : OwnEnt w' lo v' (xs ++ [(u, e)]) (ps ++ [e]) := by
  have hxl := h.len
  have hkept : ∀ {x : Value} {ys : List Int} {l : Nat}, Own .i64 3 w l x ys → Own .i64 3 w' l x ys := fun hx => hx.grown hg (fun q e h' => own_apart_ent hx h.row q e h')
  refine ⟨by rw [List.length_append, List.length_singleton, entrow_append]; exact hrow, fun j hj => ?_, ?_⟩
  · rw [List.length_append, List.length_singleton] at hj
    by_cases hjk : j < ps.length
    · obtain ⟨x, h1, h2⟩ := h.each j hjk
      rw [entA_app1 hjk]
      exact ⟨x, by rw [List.getElem?_append_left (by omega)]; exact h1, hkept h2⟩
    · obtain rfl : j = ps.length := by omega
      rw [entA_app2]
      exact ⟨u, by rw [← hxl, List.getElem?_append_right (Nat.le_refl _), Nat.sub_self]; rfl, hkept hu⟩
  · rw [List.map_append]
    exact h.apart.snoc (b := b) (fun x hx r hr => by
      obtain ⟨y, hy, rfl⟩ := List.mem_map.1 hx
      exact hb y hy r hr) hn
theorem app_each {zs : List Ent} {e : Ent} (h : ∀ j, j < zs.length → (entA zs j).lights.length ≤ 1048576) (he : e.lights.length ≤ 1048576) : ∀ j, j < zs.length + 1 → (entA (zs ++ [e]) j).lights.length ≤ 1048576 := by
  intro j hj
  by_cases hjk : j < zs.length
  · rw [entA_app1 hjk]; exact h j hjk
  · obtain rfl : j = zs.length := by omega
    rw [entA_app2]; exact he
set_option maxHeartbeats 4000000 in
set_option maxRecDepth 100000 in
theorem impl_AddEntry (A : Option Addr) (n c B : Nat) (zs : List Ent) (s : Int) (A2 : Option Addr) (n2 c2 B2 : Nat) (ls : List Int) (w : World) (h : EntsAt w B A n zs) (hB : B ≤ w.heap.size) (hn : n ≤ 1048576) (hm : ∀ j, j < n → (entA zs j).lights.length ≤ 1048576) (h2 : IntsAt .i64 w B2 A2 n2 ls) (hB2 : B2 ≤ w.heap.size) (hnil : A2 = none → n2 = 0 ∧ c2 = 0) (hn2 : n2 ≤ 1048576) :
    Calls Try.prog 20 #[.slice A n c, .int .i64 s, .slice A2 n2 c2] w fun e w' => ∃ v xs, e = .returned (.tuple #[v, .bool (addE zs s ls).2]) ∧ OwnEnt w' w.heap.size v xs (addE zs s ls).1 ∧ Below w.heap.size w w' := by
  have hl := h.1
  have hl2 := h2.1
  have HI2 := Lib.hid (fun x (hx : Below w.heap.size w x) => (h2.keep (w' := x) (fun p hp => hx.cell (by omega))).up (Nat.le_trans hB2 hx.size))
  have HCP := Lib.hid (fun x (hx : Below w.heap.size w x) => impl_copyEntries A n c B zs x (h.keep (hx.mono hB)) (Nat.le_trans hB hx.size) hn hm)
  have HCL := Lib.hid (fun x (hx : Below w.heap.size w x) => lib_Clone2 A2 n2 c2 x.heap.size ls x (HI2.out x hx) (Nat.le_refl _) hnil (by omega))
  have HLS := Lib.hid (fun x (hx : Below w.heap.size w x) => impl_LastSeal A n c B zs x (h.keep (hx.mono hB)) (Nat.le_trans hB hx.size) (by omega))
  have HSO := Lib.hid (fun (b : Int) x (hx : Below w.heap.size w x) => impl_SealOf b s A2 n2 c2 x.heap.size ls x (HI2.out x hx) hnil (Nat.le_refl _) hn2)
  have HIR := Lib.hid (fun (A6 : Option Addr) (c6 : Nat) x (hx : EntsAt x x.heap.size A6 (n + 1) (zs ++ [⟨s, ls, sealI (lastSl zs) s ls⟩])) => impl_IsRecord A6 (n + 1) c6 x.heap.size _ x hx (Nat.le_refl _) (by omega) (by rw [← hl]; exact app_each (by rw [hl]; exact hm) (by simp only; omega)))
  have HL := Lib.hid hl
  have HADY := Lib.hid (addE_yes (zs := zs) (s := s) (ls := ls))
  have HADN := Lib.hid (addE_no (zs := zs) (s := s) (ls := ls))
  clear h h2 hm hl hl2 hnil
  generalize hsl : sealI (lastSl zs) s ls = sl at *
  have HSL := Lib.hid hsl
  clear hsl
  go_enter Try.func20, Try.ntmps20
  go_wp2_with fail
  refine (HCP.out w (Below.refl _ _)).mono ?_
  rintro e w1 ⟨v1, xs, rfl, ho1, hb1⟩
  obtain ⟨A1, c1, rfl⟩ := ho1.sliced
  rw [HL.out] at ho1 ⊢
  have HLTU := Lib.hid (ent_ltu ho1)
  have HO1 := Lib.hid ho1
  have HB1 := Lib.hid hb1
  clear ho1 hb1
  go_wp2_with fail
  refine (HCL.out w1 HB1.out).mono ?_
  rintro e w2 ⟨v2, rfl, ho2, hb2⟩
  have HGE := Lib.hid (fun r hr => (ho2.block r hr).1)
  have HO2 := Lib.hid (ho2.mono (lo' := w.heap.size) HB1.out.size)
  have HE2 := Lib.hid (HO1.out.below hb2)
  have HB2 := Lib.hid (HB1.out.trans (hb2.mono HB1.out.size))
  clear ho2 hb2 HO1 HB1
  go_wp2_with fail
  refine (HLS.out w2 HB2.out).mono ?_
  rintro e w3 ⟨rfl, hb3⟩
  have HO3 := Lib.hid (HO2.out.below hb3)
  have HE3 := Lib.hid (HE2.out.below hb3)
  have HB3 := Lib.hid (HB2.out.trans (hb3.mono HB2.out.size))
  clear hb3 HO2 HE2 HB2
  go_wp2_with fail
  refine (HSO.out _ w3 HB3.out).mono ?_
  rw [HSL.out]
  rintro e w4 ⟨rfl, hb4⟩
  have HO4 := Lib.hid (HO3.out.below hb4)
  have HE4 := Lib.hid (HE3.out.below hb4)
  have HB4 := Lib.hid (HB3.out.trans (hb4.mono HB3.out.size))
  have hs4 := HB4.out.size
  obtain ⟨A2', c2', rfl⟩ := HO4.out.sliced
  clear hb4 HO3 HE3 HB3
  have hone : ∀ u ∈ [Value.int .i64 s, Value.slice A2' ls.length c2', Value.int .i64 sl], u.oneCell' = true := by
    intro u hu
    simp only [List.mem_cons, List.not_mem_nil, or_false] at hu
    rcases hu with rfl | rfl | rfl <;> rfl
  have HONE := Lib.hid hone
  have HROW : Hid (w4.ownsRow w.heap.size 84 3 (.slice A1 n c1) n (entrow xs)) := Lib.hid (by have := HE4.out.row; rw [HL.out] at this; exact this)
  clear hone
  go_wp2_with (at_builtin; refine wpList_appR1 rfl _ _ 35 rfl 84 _ 3 40 Try.underlying35 info_ent rfl (by decide) (by decide) w.heap.size (.slice A1 n c1) n _ rfl HROW.out (by omega) [.int .i64 s, .slice A2' ls.length c2', .int .i64 sl] rfl HONE.out _ _ w4.heap.size hs4 rfl (by simp) ?_; intro v5 w5 hr5 hg5 hat5; clear hat5; obtain ⟨A5, c5, rfl⟩ := ownr_sliced hr5; have HR5 := Lib.hid hr5; have HG5 := Lib.hid hg5; clear hr5 hg5)
  have hba : Below w4.heap.size w4 (w4.alloc (.cells #[.int .i64 s, .slice A2' ls.length c2', .int .i64 sl] 84)) := (Below.refl _ _).alloc (Nat.le_refl _) _
  have HE5 : Hid (OwnEnt w5 w.heap.size (.slice A5 (n + 1) c5) (xs ++ [(.slice A2' ls.length c2', ⟨s, ls, sl⟩)]) (zs ++ [⟨s, ls, sl⟩])) := Lib.hid ((HE4.out.below hba).push (b := w1.heap.size) (HO4.out.below hba) HLTU.out HGE.out (by rw [HL.out]; exact HR5.out) HG5.out)
  have HB5 : Hid (Below w.heap.size w w5) := Lib.hid (ownr_push HROW.out (Nat.le_refl _) (HB4.out.alloc hs4 _) (by simp; omega) HG5.out)
  have HIX := Lib.hid (HIR.out A5 c5 w5 (by have := HE5.out.ss; exact this))
  clear hba HROW HONE HR5 HG5
  cases hrec : isRec (zs ++ [⟨s, ls, sl⟩])
  · have HV := Lib.hid (HADN.out hrec)
    have HRC := Lib.hid hrec
    clear hrec
    refine HIX.out.mono ?_
    rw [HRC.out]
    rintro e w6 ⟨rfl, hb6⟩
    have HB6 := Lib.hid (HB5.out.trans (hb6.mono HB5.out.size))
    clear hb6
    go_wp2_with fail
    refine (HCP.out w6 HB6.out).mono ?_
    rintro e w7 ⟨v7, xs7, rfl, ho7, hb7⟩
    have HO7 := Lib.hid (ho7.mono HB6.out.size)
    have HB7 := Lib.hid (HB6.out.trans (hb7.mono HB6.out.size))
    clear ho7 hb7
    go_wp2
    go_ret2
    exact ⟨v7, xs7, by rw [HV.out]; rfl, by rw [HV.out]; exact HO7.out, HB7.out⟩
  · have HV := Lib.hid (HADY.out hrec)
    have HRC := Lib.hid hrec
    clear hrec
    refine HIX.out.mono ?_
    rw [HRC.out]
    rintro e w6 ⟨rfl, hb6⟩
    have HB6 := Lib.hid (HB5.out.trans (hb6.mono HB5.out.size))
    have HE6 := Lib.hid (HE5.out.below hb6)
    clear hb6
    go_wp2
    go_ret2
    exact ⟨.slice A5 (n + 1) c5, _, by rw [HV.out]; rfl, by rw [HV.out]; exact HE6.out, HB6.out⟩
set_option maxHeartbeats 4000000 in
set_option maxRecDepth 100000 in
theorem spec_AddEntry (A : Option Addr) (n c B : Nat) (zs : List Ent) (s : Int) (A2 : Option Addr) (n2 c2 B2 : Nat) (ls : List Int) (w : World) (h : EntsAt w B A n zs) (hB : B ≤ w.heap.size) (hn : n ≤ 1048576) (hm : ∀ j, j < n → (entA zs j).lights.length ≤ 1048576) (h2 : IntsAt .i64 w B2 A2 n2 ls) (hB2 : B2 ≤ w.heap.size) (hnil : A2 = none → n2 = 0 ∧ c2 = 0) (hn2 : n2 ≤ 1048576) :
    Calls Try.prog 17 #[.slice A n c, .int .i64 s, .slice A2 n2 c2] w fun e w' => ∃ v xs, e = .returned (.tuple #[v, .bool (addE zs s ls).2]) ∧ OwnEnt w' w.heap.size v xs (addE zs s ls).1 ∧ Below w.heap.size w w' := by
  have hl := h.1
  have hl2 := h2.1
  have HI2 := Lib.hid (fun x (hx : Below w.heap.size w x) => (h2.keep (w' := x) (fun p hp => hx.cell (by omega))).up (Nat.le_trans hB2 hx.size))
  have HCP := Lib.hid (fun x (hx : Below w.heap.size w x) => spec_l27Copy A n c B zs x (h.keep (hx.mono hB)) (Nat.le_trans hB hx.size) hn hm)
  have HNIL := Lib.hid hnil
  have HLS := Lib.hid (fun x (hx : Below w.heap.size w x) => spec_LastSeal A n c B zs x (h.keep (hx.mono hB)) (Nat.le_trans hB hx.size) (by omega))
  have HSO := Lib.hid (fun (b : Int) x (hx : Below w.heap.size w x) => spec_SealOf b s A2 n2 c2 x.heap.size ls x (HI2.out x hx) hnil (Nat.le_refl _) (by omega))
  have HIR := Lib.hid (fun (A6 : Option Addr) (c6 : Nat) x (hx : EntsAt x x.heap.size A6 (n + 1) (zs ++ [⟨s, ls, sealI (lastSl zs) s ls⟩])) => spec_IsRecord A6 (n + 1) c6 x.heap.size _ x hx (Nat.le_refl _) (by omega) (by rw [← hl]; exact app_each (by rw [hl]; exact hm) (by simp only; omega)))
  have HL := Lib.hid hl
  have HADY := Lib.hid (addE_yes (zs := zs) (s := s) (ls := ls))
  have HADN := Lib.hid (addE_no (zs := zs) (s := s) (ls := ls))
  clear h h2 hm hl hl2 hnil
  generalize hsl : sealI (lastSl zs) s ls = sl at *
  have HSL := Lib.hid hsl
  clear hsl
  go_enter Try.func17, Try.ntmps17
  go_wp2_with fail
  refine (HCP.out w (Below.refl _ _)).mono ?_
  rintro e w1 ⟨v1, xs, rfl, ho1, hb1⟩
  obtain ⟨A1, c1, rfl⟩ := ho1.sliced
  rw [HL.out] at ho1 ⊢
  have HLTU := Lib.hid (ent_ltu ho1)
  have HO1 := Lib.hid ho1
  have HB1 := Lib.hid hb1
  clear ho1 hb1
  go_wp2_with (at_builtin; refine wpList_app rfl _ _ 22 22 rfl .i64 3 3 8 Try.underlying22 Try.underlying22 info_i64 w1.heap.size _ [] rfl (own_bare _ _ w1) A2 n2 c2 w1.heap.size ls rfl ((HI2.out w1 HB1.out).keep fun p hp => World.cell?_of_block (Below.heap_alloc w1 _ _ (by omega))) HNIL.out (by decide) (by simp; omega) (by simp) ?_; intro v2 w2 ho2 hg2 hat2; clear hat2; rw [List.nil_append] at ho2; have HG2 := Lib.hid hg2; clear hg2)
  have hb2 : Below w1.heap.size w1 w2 := (own_bare .i64 3 w1).push (Nat.le_refl _) ((Below.refl _ _).alloc (Nat.le_refl _) _) (by simp) HG2.out
  clear HG2
  have HGE := Lib.hid (fun r hr => (ho2.block r hr).1)
  have HO2 := Lib.hid (ho2.mono (lo' := w.heap.size) HB1.out.size)
  have HE2 := Lib.hid (HO1.out.below hb2)
  have HB2 := Lib.hid (HB1.out.trans (hb2.mono HB1.out.size))
  clear ho2 hb2 HO1 HB1
  refine (HLS.out w2 HB2.out).mono ?_
  rintro e w3 ⟨rfl, hb3⟩
  have HO3 := Lib.hid (HO2.out.below hb3)
  have HE3 := Lib.hid (HE2.out.below hb3)
  have HB3 := Lib.hid (HB2.out.trans (hb3.mono HB2.out.size))
  clear hb3 HO2 HE2 HB2
  go_wp2_with fail
  refine (HSO.out _ w3 HB3.out).mono ?_
  rw [HSL.out]
  rintro e w4 ⟨rfl, hb4⟩
  have HO4 := Lib.hid (HO3.out.below hb4)
  have HE4 := Lib.hid (HE3.out.below hb4)
  have HB4 := Lib.hid (HB3.out.trans (hb4.mono HB3.out.size))
  have hs4 := HB4.out.size
  obtain ⟨A2', c2', rfl⟩ := HO4.out.sliced
  clear hb4 HO3 HE3 HB3
  have hone : ∀ u ∈ [Value.int .i64 s, Value.slice A2' ls.length c2', Value.int .i64 sl], u.oneCell' = true := by
    intro u hu
    simp only [List.mem_cons, List.not_mem_nil, or_false] at hu
    rcases hu with rfl | rfl | rfl <;> rfl
  have HONE := Lib.hid hone
  have HROW : Hid (w4.ownsRow w.heap.size 84 3 (.slice A1 n c1) n (entrow xs)) := Lib.hid (by have := HE4.out.row; rw [HL.out] at this; exact this)
  clear hone
  go_wp2_with (at_builtin; refine wpList_appR1 rfl _ _ 35 rfl 84 _ 3 40 Try.underlying35 info_ent rfl (by decide) (by decide) w.heap.size (.slice A1 n c1) n _ rfl HROW.out (by omega) [.int .i64 s, .slice A2' ls.length c2', .int .i64 sl] rfl HONE.out _ _ w4.heap.size hs4 rfl (by simp) ?_; intro v5 w5 hr5 hg5 hat5; clear hat5; obtain ⟨A5, c5, rfl⟩ := ownr_sliced hr5; have HR5 := Lib.hid hr5; have HG5 := Lib.hid hg5; clear hr5 hg5)
  have hba : Below w4.heap.size w4 (w4.alloc (.cells #[.int .i64 s, .slice A2' ls.length c2', .int .i64 sl] 84)) := (Below.refl _ _).alloc (Nat.le_refl _) _
  have HE5 : Hid (OwnEnt w5 w.heap.size (.slice A5 (n + 1) c5) (xs ++ [(.slice A2' ls.length c2', ⟨s, ls, sl⟩)]) (zs ++ [⟨s, ls, sl⟩])) := Lib.hid ((HE4.out.below hba).push (b := w1.heap.size) (HO4.out.below hba) HLTU.out HGE.out (by rw [HL.out]; exact HR5.out) HG5.out)
  have HB5 : Hid (Below w.heap.size w w5) := Lib.hid (ownr_push HROW.out (Nat.le_refl _) (HB4.out.alloc hs4 _) (by simp; omega) HG5.out)
  have HIX := Lib.hid (HIR.out A5 c5 w5 (by have := HE5.out.ss; exact this))
  clear hba HROW HONE HR5 HG5
  cases hrec : isRec (zs ++ [⟨s, ls, sl⟩])
  · have HV := Lib.hid (HADN.out hrec)
    have HRC := Lib.hid hrec
    clear hrec
    refine HIX.out.mono ?_
    rw [HRC.out]
    rintro e w6 ⟨rfl, hb6⟩
    have HB6 := Lib.hid (HB5.out.trans (hb6.mono HB5.out.size))
    clear hb6
    go_wp2_with fail
    refine (HCP.out w6 HB6.out).mono ?_
    rintro e w7 ⟨v7, xs7, rfl, ho7, hb7⟩
    have HO7 := Lib.hid (ho7.mono HB6.out.size)
    have HB7 := Lib.hid (HB6.out.trans (hb7.mono HB6.out.size))
    clear ho7 hb7
    go_wp2
    go_ret2
    exact ⟨v7, xs7, by rw [HV.out]; rfl, by rw [HV.out]; exact HO7.out, HB7.out⟩
  · have HV := Lib.hid (HADY.out hrec)
    have HRC := Lib.hid hrec
    clear hrec
    refine HIX.out.mono ?_
    rw [HRC.out]
    rintro e w6 ⟨rfl, hb6⟩
    have HB6 := Lib.hid (HB5.out.trans (hb6.mono HB5.out.size))
    have HE6 := Lib.hid (HE5.out.below hb6)
    clear hb6
    go_wp2
    go_ret2
    exact ⟨.slice A5 (n + 1) c5, _, by rw [HV.out]; rfl, by rw [HV.out]; exact HE6.out, HB6.out⟩
end Go.Proofs.Ytlpkafhapmkkfaa

/- Contracts of EqualBytes and EqualInts: program and model. -/
namespace Go.Proofs.Ytlpkafhapmkkfaa
open Go.RowKit
set_option linter.unusedVariables false

/-- what EqualBytes and EqualInts answer. -/
def eqL (a b : List Int) : Bool := decide (a = b)
/-- the string of these bytes. -/
def bstr (zs : List Int) : ByteArray := zs.foldl (fun r n => r.push (UInt8.ofNat n.toNat)) ByteArray.empty
theorem bstr_fold (zs : List Int) : ∀ r : ByteArray, (zs.foldl (fun r n => r.push (UInt8.ofNat n.toNat)) r).toList = r.toList ++ zs.map fun n => UInt8.ofNat n.toNat := by
  induction zs with
  | nil => intro r; simp
  | cons z zs ih =>
    intro r
    rw [List.foldl_cons, ih, List.map_cons]
    simp [ByteArray.toList_eq]
theorem bstr_list (zs : List Int) : (bstr zs).toList = zs.map fun n => UInt8.ofNat n.toNat := by
  unfold bstr
  rw [bstr_fold]
  simp [ByteArray.toList_eq]
theorem bytes_inj : ∀ (a b : List Int), (∀ z ∈ a, 0 ≤ z ∧ z ≤ 255) → (∀ z ∈ b, 0 ≤ z ∧ z ≤ 255) → (a.map fun n => UInt8.ofNat n.toNat) = (b.map fun n => UInt8.ofNat n.toNat) → a = b
  | [], [], _, _, _ => rfl
  | [], _ :: _, _, _, h => by simp at h
  | _ :: _, [], _, _, h => by simp at h
  | x :: a, y :: b, ha, hb, h => by
    simp only [List.map_cons, List.cons.injEq] at h
    have hx := ha x List.mem_cons_self
    have hy := hb y List.mem_cons_self
    have h1 := congrArg UInt8.toNat h.1
    simp only [UInt8.toNat_ofNat'] at h1
    have e : x = y := by omega
    rw [e, bytes_inj a b (fun z hz => ha z (List.mem_cons_of_mem _ hz)) (fun z hz => hb z (List.mem_cons_of_mem _ hz)) h.2]
theorem bstr_inj {a b : List Int} (ha : ∀ z ∈ a, 0 ≤ z ∧ z ≤ 255) (hb : ∀ z ∈ b, 0 ≤ z ∧ z ≤ 255) (h : bstr a = bstr b) : a = b :=
  bytes_inj a b ha hb (by rw [← bstr_list, ← bstr_list, h])
/-- 'string(b)'. -/
theorem run_string_of_bytes {P : Program} {src dst e : TypeId} (hs : P.underlying src = some (.slice e)) (he : P.underlying e = some (.int .u8)) (hd : P.underlying dst = some .string) (A : Option Addr) (n c B : Nat) (zs : List Int) (w : World) (h : IntsAt .u8 w B A n zs) :
    (convert src dst (.slice A n c)).run P w = .ok (.string (bstr zs)) w := by
  rw [run_convert_bytes_string _ src dst e _ _ _ hs he hd]
  have hl := h.1
  cases A with
  | none =>
    have h0 : n = 0 := by
      rcases Nat.eq_zero_or_pos n with h0 | h0
      · exact h0
      · obtain ⟨ad, e, _⟩ := h.2 h0; cases e
    subst h0
    have : zs = [] := List.eq_nil_of_length_eq_zero hl
    subst this
    simp [Conv.bytesToString, bstr]
  | some ad =>
    refine run_bytesToString _ _ _ _ zs ?_
    have h2 := run_loadCells_list (P := P) w ad (zs.map (Value.int .u8)) (ints_news h)
    rw [List.length_map, hl] at h2
    exact h2
theorem cmp_slices (A : Option Addr) (n c B : Nat) (zs : List Int) (A2 : Option Addr) (n2 c2 B2 : Nat) (zs2 : List Int) (w : World) (h : IntsAt .i64 w B A n zs) (h2 : IntsAt .i64 w B2 A2 n2 zs2) (hn : n ≤ 4398046511104) (hn2 : n2 ≤ 4398046511104) :
    Calls Try.prog 110 #[.slice A n c, .slice A2 n2 c2] w fun e w' => e = .returned (.bool (decide (zs = zs2))) ∧ Below w.heap.size w w' := by
  have hl := h.1
  have hl2 := h2.1
  by_cases hne : n = n2
  · subst hne
    go_enter Try.func110, Try.ntmps110
    go_wp2
    go_loopw [13] (fun i wr => ∃ k : Nat, k ≤ n ∧ i = .int .i64 k ∧ zs.take k = zs2.take k ∧ Below w.heap.size w wr ∧ wr.heap = w.heap) (fun i _ => n - (intOf i).toNat)
    case atStart => exact ⟨0, Nat.zero_le _, rfl, by simp, Below.refl _ _, rfl⟩
    case round =>
      obtain ⟨k, hk, rfl, hsame, hbl, hheap⟩ := hrel
      by_cases hlt : k < n
      · obtain ⟨ad, rfl, hab, hcell⟩ := h.2 (by omega)
        obtain ⟨ad2, rfl, hab2, hcell2⟩ := h2.2 (by omega)
        have hc : wr.cell? (ad.add k) = _ := (World.cell?_of_block (by rw [hheap])).trans (hcell k hlt)
        have hc2 : wr.cell? (ad2.add k) = _ := (World.cell?_of_block (by rw [hheap])).trans (hcell2 k hlt)
        have HH := Lib.hid hheap
        clear hcell hcell2 hheap
        by_cases e : zs.getD k 0 = zs2.getD k 0
        · have HN := Lib.hid (same_step hsame (by omega) (by omega) e)
          clear hsame
          generalize zs.getD k 0 = z at *
          generalize zs2.getD k 0 = z2 at *
          subst e
          go_wp2
          go_quiet (fail)
          go_wp2
          go_roundw
          case rel => exact ⟨k + 1, by omega, by go_num, HN.out, belowN hbl _, HH.out⟩
          case measure => simp [intOf]; omega
        · have HN := Lib.hid (same_not e)
          have e' : (!(zs.getD k 0 == zs2.getD k 0)) = true := by simpa using e
          have e2 : (zs.getD k 0 != zs2.getD k 0) = true := by simpa using e
          clear hsame e
          generalize zs.getD k 0 = z at *
          generalize zs2.getD k 0 = z2 at *
          go_wp2
          go_quiet (fail)
          go_wp2
          go_ret
          exact ⟨by rw [HN.out]; rfl, belowN hbl _⟩
      · obtain rfl : k = n := by omega
        have HN := Lib.hid (same_all hsame hl hl2)
        clear hsame
        go_wp2
        go_ret
        exact ⟨by rw [HN.out]; rfl, hbl⟩
  · have HN : Hid (decide (zs = zs2) = false) := Lib.hid (by rw [decide_eq_false_iff_not]; rintro rfl; omega)
    go_enter Try.func110, Try.ntmps110
    go_wp2
    go_ret
    exact ⟨by rw [HN.out]; rfl, Below.refl _ _⟩
theorem sp_EqualInts (A : Option Addr) (n c : Nat) (zs : List Int) (A2 : Option Addr) (n2 c2 : Nat) (zs2 : List Int) (w : World) (h : Sl .i64 w A n c zs) (hs : n ≤ 1048576) (h2 : Sl .i64 w A2 n2 c2 zs2) (hs2 : n2 ≤ 1048576) (r : Bool) (hr : eqL zs zs2 = r) :
    Calls Try.prog 68 #[.slice A n c, .slice A2 n2 c2] w fun e w' => e = .returned (.bool r) ∧ Below w.heap.size w w' := (show decide (zs = zs2) = r from hr) ▸ spec_EqualInts A n c _ zs A2 n2 c2 _ zs2 w h.ints h2.ints (by omega) (by omega)
theorem im_EqualInts (A : Option Addr) (n c : Nat) (zs : List Int) (A2 : Option Addr) (n2 c2 : Nat) (zs2 : List Int) (w : World) (h : Sl .i64 w A n c zs) (hs : n ≤ 1048576) (h2 : Sl .i64 w A2 n2 c2 zs2) (hs2 : n2 ≤ 1048576) (r : Bool) (hr : eqL zs zs2 = r) :
    Calls Try.prog 70 #[.slice A n c, .slice A2 n2 c2] w fun e w' => e = .returned (.bool r) ∧ Below w.heap.size w w' := by
  go_enter Try.func70, Try.ntmps70
  go_wp2_with fail
  refine (cmp_slices A n c _ zs A2 n2 c2 _ zs2 _ h.ints h2.ints (by omega) (by omega)).mono ?_
  rw [show decide (zs = zs2) = r from hr]
  rintro e w1 ⟨rfl, hb⟩
  go_wp2
  go_ret
  exact ⟨rfl, hb⟩
end Go.Proofs.Ytlpkafhapmkkfaa

/- Chapter 27: NoteLights: the program and the model (written by gennte.py). -/
namespace Go.Proofs.Ytlpkafhapmkkfaa
open Go.RowKit
set_option linter.unusedVariables false
set_option linter.unusedSimpArgs false

/-- what NoteLights answers. -/
def noteE (zs : List Ent) (s : Int) (ls : List Int) : List Ent × Bool :=
  if zs.length = 0 ∨ (entA zs (zs.length - 1)).lights ≠ ls then addE zs s ls else (zs, isRec zs && inB s 0 1000000 && decide ((entA zs (zs.length - 1)).second < s))
theorem noteE_add0 {zs : List Ent} {s : Int} {ls : List Int} (h : zs.length = 0) : noteE zs s ls = addE zs s ls := by unfold noteE; rw [if_pos (Or.inl h)]
theorem noteE_add1 {zs : List Ent} {s : Int} {ls : List Int} {k : Nat} (hl : zs.length = k + 1) (h : (entA zs k).lights ≠ ls) : noteE zs s ls = addE zs s ls := by unfold noteE; rw [if_pos (Or.inr (by rw [hl]; exact h))]
theorem noteE_same {zs : List Ent} {s : Int} {ls : List Int} {k : Nat} (hl : zs.length = k + 1) (h : (entA zs k).lights = ls) : noteE zs s ls = (zs, isRec zs && inB s 0 1000000 && decide ((entA zs k).second < s)) := by
  unfold noteE
  rw [if_neg (by rw [hl, Nat.add_sub_cancel]; exact fun h1 => h1.elim (fun h2 => by omega) (fun h2 => h2 h)), hl]
  rfl
theorem noteE_small {zs : List Ent} {s : Int} {ls : List Int} (h : SmallEnt zs) : SmallEnt (noteE zs s ls).1 := by
  unfold noteE
  split
  · exact addE_small h
  · exact h
theorem impl_EqualIntsE (A : Option Addr) (n c B : Nat) (zs : List Int) (A2 : Option Addr) (n2 c2 B2 : Nat) (zs2 : List Int) (w : World) (h : IntsAt .i64 w B A n zs) (h2 : IntsAt .i64 w B2 A2 n2 zs2) (hn : n ≤ 1048576) (hn2 : n2 ≤ 1048576) :
    Calls Try.prog 70 #[.slice A n c, .slice A2 n2 c2] w fun e w' => e = .returned (.bool (decide (zs = zs2))) ∧ Below w.heap.size w w' := by
  go_enter Try.func70, Try.ntmps70
  go_wp2_with fail
  refine (cmp_slices A n c B zs A2 n2 c2 B2 zs2 _ h h2 (by omega) (by omega)).mono ?_
  rintro e w1 ⟨rfl, hb⟩
  go_wp2
  go_ret
  exact ⟨rfl, hb⟩
set_option maxHeartbeats 8000000 in
set_option maxRecDepth 100000 in
theorem impl_NoteLights (A : Option Addr) (n c B : Nat) (zs : List Ent) (s : Int) (A2 : Option Addr) (n2 c2 B2 : Nat) (ls : List Int) (w : World) (h : EntsAt w B A n zs) (hB : B ≤ w.heap.size) (hn : n ≤ 1048576) (hm : ∀ j, j < n → (entA zs j).lights.length ≤ 1048576) (h2 : IntsAt .i64 w B2 A2 n2 ls) (hB2 : B2 ≤ w.heap.size) (hnil : A2 = none → n2 = 0 ∧ c2 = 0) (hn2 : n2 ≤ 1048576) :
    Calls Try.prog 27 #[.slice A n c, .int .i64 s, .slice A2 n2 c2] w fun e w' => ∃ v xs, e = .returned (.tuple #[v, .bool (noteE zs s ls).2]) ∧ OwnEnt w' w.heap.size v xs (noteE zs s ls).1 ∧ Below w.heap.size w w' := by
  have hl := h.1
  have hl2 := h2.1
  have hmx : Try.prog.follows .mixedOrders = true := by kernel_rfl
  have HI2 := Lib.hid (fun x (hx : Below w.heap.size w x) => (h2.keep (w' := x) (fun p hp => hx.cell (by omega))).up (Nat.le_trans hB2 hx.size))
  have HLO := Lib.hid (impl_lastOf A n c B zs w h hB (by omega))
  have HAE := Lib.hid (fun x (hx : Below w.heap.size w x) => impl_AddEntry A n c B zs s A2 n2 c2 x.heap.size ls x (h.keep (hx.mono hB)) (Nat.le_trans hB hx.size) hn hm (HI2.out x hx) (Nat.le_refl _) hnil hn2)
  have HCP := Lib.hid (fun x (hx : Below w.heap.size w x) => impl_copyEntries A n c B zs x (h.keep (hx.mono hB)) (Nat.le_trans hB hx.size) hn hm)
  have HIR := Lib.hid (fun x (hx : Below w.heap.size w x) => impl_IsRecord A n c B zs x (h.keep (hx.mono hB)) (Nat.le_trans hB hx.size) (by omega) hm)
  have hlm : ∀ k, n = k + 1 → (entA zs k).lights.length ≤ 1048576 := fun k e => hm k (by omega)
  clear h h2 hm hnil
  go_enter Try.func27, Try.ntmps27
  go_wp2_with fail
  refine HLO.out.mono ?_
  rintro e w1 ⟨v, rfl, hv, hb1⟩
  have HB1 := Lib.hid hb1
  clear hb1
  by_cases h0 : n = 0
  · rw [h0] at hv
    have hv' : v = .pointer none := hv
    subst hv'
    have HV := Lib.hid (noteE_add0 (s := s) (ls := ls) (hl.trans h0))
    clear hl hv hlm HLO h0
    go_wp2_with fail
    refine (HAE.out w1 HB1.out).mono ?_
    rintro e w2 ⟨v2, xs, rfl, ho, hb2⟩
    have HO := Lib.hid (ho.mono HB1.out.size)
    have HB2 := Lib.hid (HB1.out.trans (hb2.mono HB1.out.size))
    clear ho hb2
    go_wp2
    go_ret2
    exact ⟨v2, xs, by rw [HV.out]; rfl, by rw [HV.out]; exact HO.out, HB2.out⟩
  · obtain ⟨k, hnk⟩ : ∃ k, n = k + 1 := ⟨n - 1, by omega⟩
    rw [hnk] at hv
    obtain ⟨g, v', A', m, c', rfl, hlo, hg, hi, hnl, hv'⟩ := hv
    have hlm1 := hlm k hnk
    replace hl := hl.trans hnk
    have him := hi.1
    have HEQ := Lib.hid (impl_EqualIntsE A' m c' w1.heap.size _ A2 n2 c2 w1.heap.size ls w1 hi (HI2.out w1 HB1.out) (by omega) hn2)
    have HG := Lib.hid hg
    have HL := Lib.hid hl
    obtain ⟨k0, k1, k2, k3⟩ := cells4 hg
    have lg := lt_of_block hg
    clear hi hnl hv' hg hlm HLO him hl2 hnk h0
    by_cases he : (entA zs k).lights = ls
    · have hde : decide ((entA zs k).lights = ls) = true := decide_eq_true he
      rw [hde] at HEQ
      have HV := Lib.hid (noteE_same (s := s) HL.out he)
      clear hde he hl
      go_wp2_with fail
      refine HEQ.out.mono ?_
      rintro e w2 ⟨rfl, hb2⟩
      have HG2 := Lib.hid ((hb2.block _ lg).trans HG.out)
      have HB2 := Lib.hid (HB1.out.trans (hb2.mono HB1.out.size))
      clear k0 k1 k2 k3 lg hb2
      generalize (entA zs k).second = sc at *
      go_wp2
      have hqd : w2.drew.heap[g]? = some (.cells #[.int .i64 sc, .slice A' m c', .int .i64 (entA zs k).mac, v'] 91 (0, 0)) := HG2.out
      have hdb : Below w.heap.size w w2.drew := ⟨HB2.out.os, HB2.out.tape, HB2.out.output, HB2.out.size, HB2.out.block⟩
      cases hrc : isRec zs
      · skip
        have HRES : Hid ((isRec zs && inB s 0 1000000 && decide (sc < s)) = false) := Lib.hid (by rw [hrc]; rfl)
        have HRC := Lib.hid hrc
        clear hrc
        refine wp_region_held_drew (S := fun W' => W'.heap[g]? = some (.cells #[.int .i64 sc, .slice A' m c', .int .i64 (entA zs k).mac, v'] 91 (0, 0))) hmx hqd (fun hH => ?_)
        refine wpAnyH_take (i := 0) (v := .slice A n c) rfl (by kernel_rfl) (by kernel_rfl) (by kernel_rfl) (fun _ _ _ h => h) (Or.inl ⟨by kernel_rfl, by intro W' hSw; go_simp⟩) hH ?_
        try simp only [Act.put, List.setIfInBounds_toArray, List.set_cons_zero, List.set_cons_succ]
        refine wpAnyH_take (i := 2) (v := .slice A n c) rfl (by kernel_rfl) (by kernel_rfl) (by kernel_rfl) (fun _ _ _ h => h) (Or.inl ⟨by kernel_rfl, by intro W' hSw; go_simp⟩) hH ?_
        try simp only [Act.put, List.setIfInBounds_toArray, List.set_cons_zero, List.set_cons_succ]
        refine wpAnyH_ready (rs := [1]) (by decide +kernel) (by simp) (AllReadyH.cons rfl (fun K' hK => ?_) AllReadyH.nil)
        go_simp
        refine (HCP.out _ hdb).mono ?_
        rintro e w3 ⟨v3, xs, rfl, ho3, hb3⟩
        have HG3 := Lib.hid ((hb3.block _ (lt_of_block hqd)).trans hqd)
        have HB3 := Lib.hid (hdb.trans (hb3.mono hdb.size))
        have HO3 := Lib.hid (ho3.mono hdb.size)
        clear ho3 hb3
        go_wp2_with fail
        refine hK.out _ _ HG3.out (fun _ => ?_)
        clear hK K'
        try simp only [Act.put, List.setIfInBounds_toArray, List.set_cons_zero, List.set_cons_succ]
        refine wpAnyH_ready (rs := [3]) (by decide +kernel) (by simp) (AllReadyH.cons rfl (fun K' hK => ?_) AllReadyH.nil)
        go_simp
        refine (HIR.out w3 HB3.out).mono ?_
        rw [HRC.out]
        rintro e w4 ⟨rfl, hb4⟩
        have HG4 := Lib.hid ((hb4.block _ (lt_of_block HG3.out)).trans HG3.out)
        have HB4 := Lib.hid (HB3.out.trans (hb4.mono HB3.out.size))
        have HO4 := Lib.hid (HO3.out.below hb4)
        clear hb4
        go_wp2_with fail
        refine hK.out _ _ HG4.out (fun _ => ?_)
        clear hK K'
        try simp only [Act.put, List.setIfInBounds_toArray, List.set_cons_zero, List.set_cons_succ]
        refine wpAnyH_take (i := 4) (v := .bool false) rfl (by kernel_rfl) (by kernel_rfl) (by kernel_rfl) (fun _ _ _ h => h) (Or.inl ⟨by kernel_rfl, by intro W' hSw; go_simp⟩) HG4.out ?_
        try simp only [Act.put, List.setIfInBounds_toArray, List.set_cons_zero, List.set_cons_succ]
        refine wpAnyH_take (i := 5) (v := undef) rfl (by kernel_rfl) (by kernel_rfl) (by kernel_rfl) (fun _ _ _ h => h) (Or.inr ⟨by kernel_rfl, rfl⟩) HG4.out ?_
        try simp only [Act.put, List.setIfInBounds_toArray, List.set_cons_zero, List.set_cons_succ]
        refine wpAnyH_take (i := 6) (v := undef) rfl (by kernel_rfl) (by kernel_rfl) (by kernel_rfl) (fun _ _ _ h => h) (Or.inr ⟨by kernel_rfl, rfl⟩) HG4.out ?_
        try simp only [Act.put, List.setIfInBounds_toArray, List.set_cons_zero, List.set_cons_succ]
        refine wpAnyH_take (i := 7) (v := .bool false) rfl (by kernel_rfl) (by kernel_rfl) (by kernel_rfl) (fun _ _ _ h => h) (Or.inl ⟨by kernel_rfl, by intro W' hSw; go_simp⟩) HG4.out ?_
        try simp only [Act.put, List.setIfInBounds_toArray, List.set_cons_zero, List.set_cons_succ]
        refine wpAnyH_take (i := 8) (v := .bool false) rfl (by kernel_rfl) (by kernel_rfl) (by kernel_rfl) (fun _ _ _ h => h) (Or.inl ⟨by kernel_rfl, by intro W' hSw; go_simp⟩) HG4.out ?_
        try simp only [Act.put, List.setIfInBounds_toArray, List.set_cons_zero, List.set_cons_succ]
        refine wpAnyH_take (i := 9) (v := undef) rfl (by kernel_rfl) (by kernel_rfl) (by kernel_rfl) (fun _ _ _ h => h) (Or.inr ⟨by kernel_rfl, rfl⟩) HG4.out ?_
        try simp only [Act.put, List.setIfInBounds_toArray, List.set_cons_zero, List.set_cons_succ]
        refine wpAnyH_take (i := 10) (v := undef) rfl (by kernel_rfl) (by kernel_rfl) (by kernel_rfl) (fun _ _ _ h => h) (Or.inr ⟨by kernel_rfl, rfl⟩) HG4.out ?_
        try simp only [Act.put, List.setIfInBounds_toArray, List.set_cons_zero, List.set_cons_succ]
        refine wpAnyH_take (i := 11) (v := undef) rfl (by kernel_rfl) (by kernel_rfl) (by kernel_rfl) (fun _ _ _ h => h) (Or.inr ⟨by kernel_rfl, rfl⟩) HG4.out ?_
        try simp only [Act.put, List.setIfInBounds_toArray, List.set_cons_zero, List.set_cons_succ]
        refine wpAnyH_take (i := 12) (v := undef) rfl (by kernel_rfl) (by kernel_rfl) (by kernel_rfl) (fun _ _ _ h => h) (Or.inr ⟨by kernel_rfl, rfl⟩) HG4.out ?_
        try simp only [Act.put, List.setIfInBounds_toArray, List.set_cons_zero, List.set_cons_succ]
        refine wpAnyH_take (i := 13) (v := undef) rfl (by kernel_rfl) (by kernel_rfl) (by kernel_rfl) (fun _ _ _ h => h) (Or.inr ⟨by kernel_rfl, rfl⟩) HG4.out ?_
        try simp only [Act.put, List.setIfInBounds_toArray, List.set_cons_zero, List.set_cons_succ]
        refine wpAnyH_take (i := 14) (v := undef) rfl (by kernel_rfl) (by kernel_rfl) (by kernel_rfl) (fun _ _ _ h => h) (Or.inr ⟨by kernel_rfl, rfl⟩) HG4.out ?_
        try simp only [Act.put, List.setIfInBounds_toArray, List.set_cons_zero, List.set_cons_succ]
        refine wpAnyH_take (i := 15) (v := undef) rfl (by kernel_rfl) (by kernel_rfl) (by kernel_rfl) (fun _ _ _ h => h) (Or.inr ⟨by kernel_rfl, rfl⟩) HG4.out ?_
        try simp only [Act.put, List.setIfInBounds_toArray, List.set_cons_zero, List.set_cons_succ]
        refine wpAnyH_take (i := 16) (v := .bool false) rfl (by kernel_rfl) (by kernel_rfl) (by kernel_rfl) (fun _ _ _ h => h) (Or.inl ⟨by kernel_rfl, by intro W' hSw; go_simp⟩) HG4.out ?_
        try simp only [Act.put, List.setIfInBounds_toArray, List.set_cons_zero, List.set_cons_succ]
        refine wpAnyH_ready (rs := [17]) (by decide +kernel) (by simp) (AllReadyH.cons rfl (fun K' hK => ?_) AllReadyH.nil)
        go_simp
        refine hK.out _ _ HG4.out (fun _ => ?_)
        clear hK K'
        try simp only [Act.put, List.setIfInBounds_toArray, List.set_cons_zero, List.set_cons_succ]
        refine wpAnyH_ready (rs := [18]) (by decide +kernel) (by simp) (AllReadyH.cons rfl (fun K' hK => ?_) AllReadyH.nil)
        go_simp
        refine hK.out _ _ HG4.out (fun _ => ?_)
        clear hK K'
        try simp only [Act.put, List.setIfInBounds_toArray, List.set_cons_zero, List.set_cons_succ]
        refine wpAnyH_done (by decide +kernel) ?_ _
        go_wp2
        go_ret2
        exact ⟨v3, xs, by rw [HV.out, HRES.out]; rfl, by rw [HV.out]; exact HO4.out, HB4.out⟩
      have HRC := Lib.hid hrc
      cases hsec : inB s 0 1000000
      · skip
        have HRES : Hid ((isRec zs && inB s 0 1000000 && decide (sc < s)) = false) := Lib.hid (by rw [hrc, hsec]; rfl)
        have HSEC := Lib.hid hsec
        clear hrc hsec
        refine wp_region_held_drew (S := fun W' => W'.heap[g]? = some (.cells #[.int .i64 sc, .slice A' m c', .int .i64 (entA zs k).mac, v'] 91 (0, 0))) hmx hqd (fun hH => ?_)
        refine wpAnyH_take (i := 0) (v := .slice A n c) rfl (by kernel_rfl) (by kernel_rfl) (by kernel_rfl) (fun _ _ _ h => h) (Or.inl ⟨by kernel_rfl, by intro W' hSw; go_simp⟩) hH ?_
        try simp only [Act.put, List.setIfInBounds_toArray, List.set_cons_zero, List.set_cons_succ]
        refine wpAnyH_take (i := 2) (v := .slice A n c) rfl (by kernel_rfl) (by kernel_rfl) (by kernel_rfl) (fun _ _ _ h => h) (Or.inl ⟨by kernel_rfl, by intro W' hSw; go_simp⟩) hH ?_
        try simp only [Act.put, List.setIfInBounds_toArray, List.set_cons_zero, List.set_cons_succ]
        refine wpAnyH_ready (rs := [1]) (by decide +kernel) (by simp) (AllReadyH.cons rfl (fun K' hK => ?_) AllReadyH.nil)
        go_simp
        refine (HCP.out _ hdb).mono ?_
        rintro e w3 ⟨v3, xs, rfl, ho3, hb3⟩
        have HG3 := Lib.hid ((hb3.block _ (lt_of_block hqd)).trans hqd)
        have HB3 := Lib.hid (hdb.trans (hb3.mono hdb.size))
        have HO3 := Lib.hid (ho3.mono hdb.size)
        clear ho3 hb3
        go_wp2_with fail
        refine hK.out _ _ HG3.out (fun _ => ?_)
        clear hK K'
        try simp only [Act.put, List.setIfInBounds_toArray, List.set_cons_zero, List.set_cons_succ]
        refine wpAnyH_ready (rs := [3]) (by decide +kernel) (by simp) (AllReadyH.cons rfl (fun K' hK => ?_) AllReadyH.nil)
        go_simp
        refine (HIR.out w3 HB3.out).mono ?_
        rw [HRC.out]
        rintro e w4 ⟨rfl, hb4⟩
        have HG4 := Lib.hid ((hb4.block _ (lt_of_block HG3.out)).trans HG3.out)
        have HB4 := Lib.hid (HB3.out.trans (hb4.mono HB3.out.size))
        have HO4 := Lib.hid (HO3.out.below hb4)
        clear hb4
        go_wp2_with fail
        refine hK.out _ _ HG4.out (fun _ => ?_)
        clear hK K'
        try simp only [Act.put, List.setIfInBounds_toArray, List.set_cons_zero, List.set_cons_succ]
        refine wpAnyH_take (i := 4) (v := .bool true) rfl (by kernel_rfl) (by kernel_rfl) (by kernel_rfl) (fun _ _ _ h => h) (Or.inl ⟨by kernel_rfl, by intro W' hSw; go_simp⟩) HG4.out ?_
        try simp only [Act.put, List.setIfInBounds_toArray, List.set_cons_zero, List.set_cons_succ]
        refine wpAnyH_take (i := 5) (v := .int .i64 s) rfl (by kernel_rfl) (by kernel_rfl) (by kernel_rfl) (fun _ _ _ h => h) (Or.inl ⟨by kernel_rfl, by intro W' hSw; go_simp⟩) HG4.out ?_
        try simp only [Act.put, List.setIfInBounds_toArray, List.set_cons_zero, List.set_cons_succ]
        refine wpAnyH_ready (rs := [6]) (by decide +kernel) (by simp) (AllReadyH.cons rfl (fun K' hK => ?_) AllReadyH.nil)
        go_simp
        refine (impl_isSecondR _ _).mono ?_
        rw [HSEC.out]
        rintro e w5 ⟨rfl, rfl⟩
        go_wp2_with fail
        refine hK.out _ _ HG4.out (fun _ => ?_)
        clear hK K'
        try simp only [Act.put, List.setIfInBounds_toArray, List.set_cons_zero, List.set_cons_succ]
        refine wpAnyH_take (i := 7) (v := .bool false) rfl (by kernel_rfl) (by kernel_rfl) (by kernel_rfl) (fun _ _ _ h => h) (Or.inl ⟨by kernel_rfl, by intro W' hSw; go_simp⟩) HG4.out ?_
        try simp only [Act.put, List.setIfInBounds_toArray, List.set_cons_zero, List.set_cons_succ]
        refine wpAnyH_take (i := 8) (v := .bool false) rfl (by kernel_rfl) (by kernel_rfl) (by kernel_rfl) (fun _ _ _ h => h) (Or.inl ⟨by kernel_rfl, by intro W' hSw; go_simp⟩) HG4.out ?_
        try simp only [Act.put, List.setIfInBounds_toArray, List.set_cons_zero, List.set_cons_succ]
        refine wpAnyH_take (i := 9) (v := undef) rfl (by kernel_rfl) (by kernel_rfl) (by kernel_rfl) (fun _ _ _ h => h) (Or.inr ⟨by kernel_rfl, rfl⟩) HG4.out ?_
        try simp only [Act.put, List.setIfInBounds_toArray, List.set_cons_zero, List.set_cons_succ]
        refine wpAnyH_take (i := 10) (v := undef) rfl (by kernel_rfl) (by kernel_rfl) (by kernel_rfl) (fun _ _ _ h => h) (Or.inr ⟨by kernel_rfl, rfl⟩) HG4.out ?_
        try simp only [Act.put, List.setIfInBounds_toArray, List.set_cons_zero, List.set_cons_succ]
        refine wpAnyH_take (i := 11) (v := undef) rfl (by kernel_rfl) (by kernel_rfl) (by kernel_rfl) (fun _ _ _ h => h) (Or.inr ⟨by kernel_rfl, rfl⟩) HG4.out ?_
        try simp only [Act.put, List.setIfInBounds_toArray, List.set_cons_zero, List.set_cons_succ]
        refine wpAnyH_take (i := 12) (v := undef) rfl (by kernel_rfl) (by kernel_rfl) (by kernel_rfl) (fun _ _ _ h => h) (Or.inr ⟨by kernel_rfl, rfl⟩) HG4.out ?_
        try simp only [Act.put, List.setIfInBounds_toArray, List.set_cons_zero, List.set_cons_succ]
        refine wpAnyH_take (i := 13) (v := undef) rfl (by kernel_rfl) (by kernel_rfl) (by kernel_rfl) (fun _ _ _ h => h) (Or.inr ⟨by kernel_rfl, rfl⟩) HG4.out ?_
        try simp only [Act.put, List.setIfInBounds_toArray, List.set_cons_zero, List.set_cons_succ]
        refine wpAnyH_take (i := 14) (v := undef) rfl (by kernel_rfl) (by kernel_rfl) (by kernel_rfl) (fun _ _ _ h => h) (Or.inr ⟨by kernel_rfl, rfl⟩) HG4.out ?_
        try simp only [Act.put, List.setIfInBounds_toArray, List.set_cons_zero, List.set_cons_succ]
        refine wpAnyH_take (i := 15) (v := undef) rfl (by kernel_rfl) (by kernel_rfl) (by kernel_rfl) (fun _ _ _ h => h) (Or.inr ⟨by kernel_rfl, rfl⟩) HG4.out ?_
        try simp only [Act.put, List.setIfInBounds_toArray, List.set_cons_zero, List.set_cons_succ]
        refine wpAnyH_take (i := 16) (v := .bool false) rfl (by kernel_rfl) (by kernel_rfl) (by kernel_rfl) (fun _ _ _ h => h) (Or.inl ⟨by kernel_rfl, by intro W' hSw; go_simp⟩) HG4.out ?_
        try simp only [Act.put, List.setIfInBounds_toArray, List.set_cons_zero, List.set_cons_succ]
        refine wpAnyH_ready (rs := [17]) (by decide +kernel) (by simp) (AllReadyH.cons rfl (fun K' hK => ?_) AllReadyH.nil)
        go_simp
        refine hK.out _ _ HG4.out (fun _ => ?_)
        clear hK K'
        try simp only [Act.put, List.setIfInBounds_toArray, List.set_cons_zero, List.set_cons_succ]
        refine wpAnyH_ready (rs := [18]) (by decide +kernel) (by simp) (AllReadyH.cons rfl (fun K' hK => ?_) AllReadyH.nil)
        go_simp
        refine hK.out _ _ HG4.out (fun _ => ?_)
        clear hK K'
        try simp only [Act.put, List.setIfInBounds_toArray, List.set_cons_zero, List.set_cons_succ]
        refine wpAnyH_done (by decide +kernel) ?_ _
        go_wp2
        go_ret2
        exact ⟨v3, xs, by rw [HV.out, HRES.out]; rfl, by rw [HV.out]; exact HO4.out, HB4.out⟩
      have HSEC := Lib.hid hsec
      by_cases hcm : sc < s
      · skip
        have HRES : Hid ((isRec zs && inB s 0 1000000 && decide (sc < s)) = true) := Lib.hid (by rw [hrc, hsec, decide_eq_true hcm]; rfl)
        clear hrc hsec
        have hdc : decide (sc < s) = true := decide_eq_true hcm
        refine wp_region_held_drew (S := fun W' => W'.heap[g]? = some (.cells #[.int .i64 sc, .slice A' m c', .int .i64 (entA zs k).mac, v'] 91 (0, 0))) hmx hqd (fun hH => ?_)
        refine wpAnyH_take (i := 0) (v := .slice A n c) rfl (by kernel_rfl) (by kernel_rfl) (by kernel_rfl) (fun _ _ _ h => h) (Or.inl ⟨by kernel_rfl, by intro W' hSw; go_simp⟩) hH ?_
        try simp only [Act.put, List.setIfInBounds_toArray, List.set_cons_zero, List.set_cons_succ]
        refine wpAnyH_take (i := 2) (v := .slice A n c) rfl (by kernel_rfl) (by kernel_rfl) (by kernel_rfl) (fun _ _ _ h => h) (Or.inl ⟨by kernel_rfl, by intro W' hSw; go_simp⟩) hH ?_
        try simp only [Act.put, List.setIfInBounds_toArray, List.set_cons_zero, List.set_cons_succ]
        refine wpAnyH_ready (rs := [1]) (by decide +kernel) (by simp) (AllReadyH.cons rfl (fun K' hK => ?_) AllReadyH.nil)
        go_simp
        refine (HCP.out _ hdb).mono ?_
        rintro e w3 ⟨v3, xs, rfl, ho3, hb3⟩
        have HG3 := Lib.hid ((hb3.block _ (lt_of_block hqd)).trans hqd)
        have HB3 := Lib.hid (hdb.trans (hb3.mono hdb.size))
        have HO3 := Lib.hid (ho3.mono hdb.size)
        clear ho3 hb3
        go_wp2_with fail
        refine hK.out _ _ HG3.out (fun _ => ?_)
        clear hK K'
        try simp only [Act.put, List.setIfInBounds_toArray, List.set_cons_zero, List.set_cons_succ]
        refine wpAnyH_ready (rs := [3]) (by decide +kernel) (by simp) (AllReadyH.cons rfl (fun K' hK => ?_) AllReadyH.nil)
        go_simp
        refine (HIR.out w3 HB3.out).mono ?_
        rw [HRC.out]
        rintro e w4 ⟨rfl, hb4⟩
        have HG4 := Lib.hid ((hb4.block _ (lt_of_block HG3.out)).trans HG3.out)
        have HB4 := Lib.hid (HB3.out.trans (hb4.mono HB3.out.size))
        have HO4 := Lib.hid (HO3.out.below hb4)
        clear hb4
        go_wp2_with fail
        refine hK.out _ _ HG4.out (fun _ => ?_)
        clear hK K'
        try simp only [Act.put, List.setIfInBounds_toArray, List.set_cons_zero, List.set_cons_succ]
        refine wpAnyH_take (i := 4) (v := .bool true) rfl (by kernel_rfl) (by kernel_rfl) (by kernel_rfl) (fun _ _ _ h => h) (Or.inl ⟨by kernel_rfl, by intro W' hSw; go_simp⟩) HG4.out ?_
        try simp only [Act.put, List.setIfInBounds_toArray, List.set_cons_zero, List.set_cons_succ]
        refine wpAnyH_take (i := 5) (v := .int .i64 s) rfl (by kernel_rfl) (by kernel_rfl) (by kernel_rfl) (fun _ _ _ h => h) (Or.inl ⟨by kernel_rfl, by intro W' hSw; go_simp⟩) HG4.out ?_
        try simp only [Act.put, List.setIfInBounds_toArray, List.set_cons_zero, List.set_cons_succ]
        refine wpAnyH_ready (rs := [6]) (by decide +kernel) (by simp) (AllReadyH.cons rfl (fun K' hK => ?_) AllReadyH.nil)
        go_simp
        refine (impl_isSecondR _ _).mono ?_
        rw [HSEC.out]
        rintro e w5 ⟨rfl, rfl⟩
        go_wp2_with fail
        refine hK.out _ _ HG4.out (fun _ => ?_)
        clear hK K'
        try simp only [Act.put, List.setIfInBounds_toArray, List.set_cons_zero, List.set_cons_succ]
        refine wpAnyH_take (i := 7) (v := .bool true) rfl (by kernel_rfl) (by kernel_rfl) (by kernel_rfl) (fun _ _ _ h => h) (Or.inl ⟨by kernel_rfl, by intro W' hSw; go_simp⟩) HG4.out ?_
        try simp only [Act.put, List.setIfInBounds_toArray, List.set_cons_zero, List.set_cons_succ]
        refine wpAnyH_take (i := 8) (v := .bool true) rfl (by kernel_rfl) (by kernel_rfl) (by kernel_rfl) (fun _ _ _ h => h) (Or.inl ⟨by kernel_rfl, by intro W' hSw; go_simp⟩) HG4.out ?_
        try simp only [Act.put, List.setIfInBounds_toArray, List.set_cons_zero, List.set_cons_succ]
        refine wpAnyH_take (i := 9) (v := .int .i64 s) rfl (by kernel_rfl) (by kernel_rfl) (by kernel_rfl) (fun _ _ _ h => h) (Or.inl ⟨by kernel_rfl, by intro W' hSw; go_simp⟩) HG4.out ?_
        try simp only [Act.put, List.setIfInBounds_toArray, List.set_cons_zero, List.set_cons_succ]
        refine wpAnyH_take (i := 10) (v := .pointer (some ⟨g, 0, none⟩)) rfl (by kernel_rfl) (by kernel_rfl) (by kernel_rfl) (fun _ _ _ h => h) (Or.inl ⟨by kernel_rfl, by intro W' hSw; go_simp⟩) HG4.out ?_
        try simp only [Act.put, List.setIfInBounds_toArray, List.set_cons_zero, List.set_cons_succ]
        refine wpAnyH_take (i := 11) (v := .pointer (some ⟨g, 0, none⟩)) rfl (by kernel_rfl) (by kernel_rfl) (by kernel_rfl) (fun _ _ _ h => h) (Or.inl ⟨by kernel_rfl, by intro W' hSw; go_simp⟩) HG4.out ?_
        try simp only [Act.put, List.setIfInBounds_toArray, List.set_cons_zero, List.set_cons_succ]
        refine wpAnyH_take (i := 12) (v := .pointer (some ⟨g, 0, none⟩)) rfl (by kernel_rfl) (by kernel_rfl) (by kernel_rfl) (fun _ _ _ h => h) (Or.inl ⟨by kernel_rfl, by intro W' hSw; go_simp⟩) HG4.out ?_
        try simp only [Act.put, List.setIfInBounds_toArray, List.set_cons_zero, List.set_cons_succ]
        refine wpAnyH_take (i := 13) (v := .pointer (some ⟨g, 0, none⟩)) rfl (by kernel_rfl) (by kernel_rfl) (by kernel_rfl) (fun _ _ _ h => h) (Or.inl ⟨by kernel_rfl, by intro W' hSw; go_simp⟩) HG4.out ?_
        try simp only [Act.put, List.setIfInBounds_toArray, List.set_cons_zero, List.set_cons_succ]
        refine wpAnyH_take (i := 14) (v := .int .i64 sc) rfl (by kernel_rfl) (by kernel_rfl) (by kernel_rfl) (fun _ _ _ h => h) (Or.inl ⟨by kernel_rfl, by intro W' hSw; have hlt' := lt_of_block hSw; obtain ⟨q0, q1, q2, q3⟩ := cells4 hSw; go_simp⟩) HG4.out ?_
        try simp only [Act.put, List.setIfInBounds_toArray, List.set_cons_zero, List.set_cons_succ]
        refine wpAnyH_take (i := 15) (v := .bool true) rfl (by kernel_rfl) (by kernel_rfl) (by kernel_rfl) (fun _ _ _ h => h) (Or.inl ⟨by kernel_rfl, by intro W' hSw; go_simp⟩) HG4.out ?_
        try simp only [Act.put, List.setIfInBounds_toArray, List.set_cons_zero, List.set_cons_succ]
        refine wpAnyH_take (i := 16) (v := .bool true) rfl (by kernel_rfl) (by kernel_rfl) (by kernel_rfl) (fun _ _ _ h => h) (Or.inl ⟨by kernel_rfl, by intro W' hSw; go_simp⟩) HG4.out ?_
        try simp only [Act.put, List.setIfInBounds_toArray, List.set_cons_zero, List.set_cons_succ]
        refine wpAnyH_ready (rs := [17]) (by decide +kernel) (by simp) (AllReadyH.cons rfl (fun K' hK => ?_) AllReadyH.nil)
        go_simp
        refine hK.out _ _ HG4.out (fun _ => ?_)
        clear hK K'
        try simp only [Act.put, List.setIfInBounds_toArray, List.set_cons_zero, List.set_cons_succ]
        refine wpAnyH_ready (rs := [18]) (by decide +kernel) (by simp) (AllReadyH.cons rfl (fun K' hK => ?_) AllReadyH.nil)
        go_simp
        refine hK.out _ _ HG4.out (fun _ => ?_)
        clear hK K'
        try simp only [Act.put, List.setIfInBounds_toArray, List.set_cons_zero, List.set_cons_succ]
        refine wpAnyH_done (by decide +kernel) ?_ _
        go_wp2
        go_ret2
        exact ⟨v3, xs, by rw [HV.out, HRES.out]; rfl, by rw [HV.out]; exact HO4.out, HB4.out⟩
      · skip
        have HRES : Hid ((isRec zs && inB s 0 1000000 && decide (sc < s)) = false) := Lib.hid (by rw [hrc, hsec, decide_eq_false hcm]; rfl)
        clear hrc hsec
        have hdc : decide (sc < s) = false := decide_eq_false hcm
        refine wp_region_held_drew (S := fun W' => W'.heap[g]? = some (.cells #[.int .i64 sc, .slice A' m c', .int .i64 (entA zs k).mac, v'] 91 (0, 0))) hmx hqd (fun hH => ?_)
        refine wpAnyH_take (i := 0) (v := .slice A n c) rfl (by kernel_rfl) (by kernel_rfl) (by kernel_rfl) (fun _ _ _ h => h) (Or.inl ⟨by kernel_rfl, by intro W' hSw; go_simp⟩) hH ?_
        try simp only [Act.put, List.setIfInBounds_toArray, List.set_cons_zero, List.set_cons_succ]
        refine wpAnyH_take (i := 2) (v := .slice A n c) rfl (by kernel_rfl) (by kernel_rfl) (by kernel_rfl) (fun _ _ _ h => h) (Or.inl ⟨by kernel_rfl, by intro W' hSw; go_simp⟩) hH ?_
        try simp only [Act.put, List.setIfInBounds_toArray, List.set_cons_zero, List.set_cons_succ]
        refine wpAnyH_ready (rs := [1]) (by decide +kernel) (by simp) (AllReadyH.cons rfl (fun K' hK => ?_) AllReadyH.nil)
        go_simp
        refine (HCP.out _ hdb).mono ?_
        rintro e w3 ⟨v3, xs, rfl, ho3, hb3⟩
        have HG3 := Lib.hid ((hb3.block _ (lt_of_block hqd)).trans hqd)
        have HB3 := Lib.hid (hdb.trans (hb3.mono hdb.size))
        have HO3 := Lib.hid (ho3.mono hdb.size)
        clear ho3 hb3
        go_wp2_with fail
        refine hK.out _ _ HG3.out (fun _ => ?_)
        clear hK K'
        try simp only [Act.put, List.setIfInBounds_toArray, List.set_cons_zero, List.set_cons_succ]
        refine wpAnyH_ready (rs := [3]) (by decide +kernel) (by simp) (AllReadyH.cons rfl (fun K' hK => ?_) AllReadyH.nil)
        go_simp
        refine (HIR.out w3 HB3.out).mono ?_
        rw [HRC.out]
        rintro e w4 ⟨rfl, hb4⟩
        have HG4 := Lib.hid ((hb4.block _ (lt_of_block HG3.out)).trans HG3.out)
        have HB4 := Lib.hid (HB3.out.trans (hb4.mono HB3.out.size))
        have HO4 := Lib.hid (HO3.out.below hb4)
        clear hb4
        go_wp2_with fail
        refine hK.out _ _ HG4.out (fun _ => ?_)
        clear hK K'
        try simp only [Act.put, List.setIfInBounds_toArray, List.set_cons_zero, List.set_cons_succ]
        refine wpAnyH_take (i := 4) (v := .bool true) rfl (by kernel_rfl) (by kernel_rfl) (by kernel_rfl) (fun _ _ _ h => h) (Or.inl ⟨by kernel_rfl, by intro W' hSw; go_simp⟩) HG4.out ?_
        try simp only [Act.put, List.setIfInBounds_toArray, List.set_cons_zero, List.set_cons_succ]
        refine wpAnyH_take (i := 5) (v := .int .i64 s) rfl (by kernel_rfl) (by kernel_rfl) (by kernel_rfl) (fun _ _ _ h => h) (Or.inl ⟨by kernel_rfl, by intro W' hSw; go_simp⟩) HG4.out ?_
        try simp only [Act.put, List.setIfInBounds_toArray, List.set_cons_zero, List.set_cons_succ]
        refine wpAnyH_ready (rs := [6]) (by decide +kernel) (by simp) (AllReadyH.cons rfl (fun K' hK => ?_) AllReadyH.nil)
        go_simp
        refine (impl_isSecondR _ _).mono ?_
        rw [HSEC.out]
        rintro e w5 ⟨rfl, rfl⟩
        go_wp2_with fail
        refine hK.out _ _ HG4.out (fun _ => ?_)
        clear hK K'
        try simp only [Act.put, List.setIfInBounds_toArray, List.set_cons_zero, List.set_cons_succ]
        refine wpAnyH_take (i := 7) (v := .bool true) rfl (by kernel_rfl) (by kernel_rfl) (by kernel_rfl) (fun _ _ _ h => h) (Or.inl ⟨by kernel_rfl, by intro W' hSw; go_simp⟩) HG4.out ?_
        try simp only [Act.put, List.setIfInBounds_toArray, List.set_cons_zero, List.set_cons_succ]
        refine wpAnyH_take (i := 8) (v := .bool true) rfl (by kernel_rfl) (by kernel_rfl) (by kernel_rfl) (fun _ _ _ h => h) (Or.inl ⟨by kernel_rfl, by intro W' hSw; go_simp⟩) HG4.out ?_
        try simp only [Act.put, List.setIfInBounds_toArray, List.set_cons_zero, List.set_cons_succ]
        refine wpAnyH_take (i := 9) (v := .int .i64 s) rfl (by kernel_rfl) (by kernel_rfl) (by kernel_rfl) (fun _ _ _ h => h) (Or.inl ⟨by kernel_rfl, by intro W' hSw; go_simp⟩) HG4.out ?_
        try simp only [Act.put, List.setIfInBounds_toArray, List.set_cons_zero, List.set_cons_succ]
        refine wpAnyH_take (i := 10) (v := .pointer (some ⟨g, 0, none⟩)) rfl (by kernel_rfl) (by kernel_rfl) (by kernel_rfl) (fun _ _ _ h => h) (Or.inl ⟨by kernel_rfl, by intro W' hSw; go_simp⟩) HG4.out ?_
        try simp only [Act.put, List.setIfInBounds_toArray, List.set_cons_zero, List.set_cons_succ]
        refine wpAnyH_take (i := 11) (v := .pointer (some ⟨g, 0, none⟩)) rfl (by kernel_rfl) (by kernel_rfl) (by kernel_rfl) (fun _ _ _ h => h) (Or.inl ⟨by kernel_rfl, by intro W' hSw; go_simp⟩) HG4.out ?_
        try simp only [Act.put, List.setIfInBounds_toArray, List.set_cons_zero, List.set_cons_succ]
        refine wpAnyH_take (i := 12) (v := .pointer (some ⟨g, 0, none⟩)) rfl (by kernel_rfl) (by kernel_rfl) (by kernel_rfl) (fun _ _ _ h => h) (Or.inl ⟨by kernel_rfl, by intro W' hSw; go_simp⟩) HG4.out ?_
        try simp only [Act.put, List.setIfInBounds_toArray, List.set_cons_zero, List.set_cons_succ]
        refine wpAnyH_take (i := 13) (v := .pointer (some ⟨g, 0, none⟩)) rfl (by kernel_rfl) (by kernel_rfl) (by kernel_rfl) (fun _ _ _ h => h) (Or.inl ⟨by kernel_rfl, by intro W' hSw; go_simp⟩) HG4.out ?_
        try simp only [Act.put, List.setIfInBounds_toArray, List.set_cons_zero, List.set_cons_succ]
        refine wpAnyH_take (i := 14) (v := .int .i64 sc) rfl (by kernel_rfl) (by kernel_rfl) (by kernel_rfl) (fun _ _ _ h => h) (Or.inl ⟨by kernel_rfl, by intro W' hSw; have hlt' := lt_of_block hSw; obtain ⟨q0, q1, q2, q3⟩ := cells4 hSw; go_simp⟩) HG4.out ?_
        try simp only [Act.put, List.setIfInBounds_toArray, List.set_cons_zero, List.set_cons_succ]
        refine wpAnyH_take (i := 15) (v := .bool false) rfl (by kernel_rfl) (by kernel_rfl) (by kernel_rfl) (fun _ _ _ h => h) (Or.inl ⟨by kernel_rfl, by intro W' hSw; go_simp⟩) HG4.out ?_
        try simp only [Act.put, List.setIfInBounds_toArray, List.set_cons_zero, List.set_cons_succ]
        refine wpAnyH_take (i := 16) (v := .bool false) rfl (by kernel_rfl) (by kernel_rfl) (by kernel_rfl) (fun _ _ _ h => h) (Or.inl ⟨by kernel_rfl, by intro W' hSw; go_simp⟩) HG4.out ?_
        try simp only [Act.put, List.setIfInBounds_toArray, List.set_cons_zero, List.set_cons_succ]
        refine wpAnyH_ready (rs := [17]) (by decide +kernel) (by simp) (AllReadyH.cons rfl (fun K' hK => ?_) AllReadyH.nil)
        go_simp
        refine hK.out _ _ HG4.out (fun _ => ?_)
        clear hK K'
        try simp only [Act.put, List.setIfInBounds_toArray, List.set_cons_zero, List.set_cons_succ]
        refine wpAnyH_ready (rs := [18]) (by decide +kernel) (by simp) (AllReadyH.cons rfl (fun K' hK => ?_) AllReadyH.nil)
        go_simp
        refine hK.out _ _ HG4.out (fun _ => ?_)
        clear hK K'
        try simp only [Act.put, List.setIfInBounds_toArray, List.set_cons_zero, List.set_cons_succ]
        refine wpAnyH_done (by decide +kernel) ?_ _
        go_wp2
        go_ret2
        exact ⟨v3, xs, by rw [HV.out, HRES.out]; rfl, by rw [HV.out]; exact HO4.out, HB4.out⟩
    · have hde : decide ((entA zs k).lights = ls) = false := decide_eq_false he
      rw [hde] at HEQ
      have HV := Lib.hid (noteE_add1 (s := s) HL.out he)
      clear hde he hl
      go_wp2_with fail
      refine HEQ.out.mono ?_
      rintro e w2 ⟨rfl, hb2⟩
      have HB2 := Lib.hid (HB1.out.trans (hb2.mono HB1.out.size))
      clear k0 k1 k2 k3 lg hb2
      go_wp2_with fail
      refine (HAE.out w2 HB2.out).mono ?_
      rintro e w3 ⟨v3, xs, rfl, ho, hb3⟩
      have HO := Lib.hid (ho.mono HB2.out.size)
      have HB3 := Lib.hid (HB2.out.trans (hb3.mono HB2.out.size))
      clear ho hb3
      go_wp2
      go_ret2
      exact ⟨v3, xs, by rw [HV.out]; rfl, by rw [HV.out]; exact HO.out, HB3.out⟩
set_option maxHeartbeats 8000000 in
set_option maxRecDepth 100000 in
theorem spec_NoteLights0 (A : Option Addr) (c B : Nat) (zs : List Ent) (s : Int) (A2 : Option Addr) (n2 c2 B2 : Nat) (ls : List Int) (w : World) (h : EntsAt w B A 0 zs) (hB : B ≤ w.heap.size) (hm : ∀ j, j < 0 → (entA zs j).lights.length ≤ 1048576) (h2 : IntsAt .i64 w B2 A2 n2 ls) (hB2 : B2 ≤ w.heap.size) (hnil : A2 = none → n2 = 0 ∧ c2 = 0) (hn2 : n2 ≤ 1048576) :
    Calls Try.prog 26 #[.slice A 0 c, .int .i64 s, .slice A2 n2 c2] w fun e w' => ∃ v xs, e = .returned (.tuple #[v, .bool (noteE zs s ls).2]) ∧ OwnEnt w' w.heap.size v xs (noteE zs s ls).1 ∧ Below w.heap.size w w' := by
  have hl := h.1
  have hl2 := h2.1
  have HH := Lib.hid (fun x (hx : Below w.heap.size w x) => h.keep (hx.mono hB))
  have HI2 := Lib.hid (fun x (hx : Below w.heap.size w x) => (h2.keep (w' := x) (fun p hp => hx.cell (by omega))).up (Nat.le_trans hB2 hx.size))
  have HAE := Lib.hid (fun x (hx : Below w.heap.size w x) => spec_AddEntry A 0 c B zs s A2 n2 c2 x.heap.size ls x (h.keep (hx.mono hB)) (Nat.le_trans hB hx.size) (by omega) hm (HI2.out x hx) (Nat.le_refl _) hnil hn2)
  have HCP := Lib.hid (fun x (hx : Below w.heap.size w x) => spec_l27Copy A 0 c B zs x (h.keep (hx.mono hB)) (Nat.le_trans hB hx.size) (by omega) hm)
  have HIR := Lib.hid (fun x (hx : Below w.heap.size w x) => spec_IsRecord A 0 c B zs x (h.keep (hx.mono hB)) (Nat.le_trans hB hx.size) (by omega) hm)
  clear h h2 hm hnil
  have HV := Lib.hid (noteE_add0 (s := s) (ls := ls) hl)
  clear hl
  go_enter Try.func26, Try.ntmps26
  go_wp2_with fail
  refine (HAE.out w (Below.refl _ _)).mono ?_
  rintro e w2 ⟨v2, xs, rfl, ho, hb2⟩
  have HO := Lib.hid ho
  have HB2 := Lib.hid hb2
  clear ho hb2
  go_wp2
  go_ret2
  exact ⟨v2, xs, by rw [HV.out]; rfl, by rw [HV.out]; exact HO.out, HB2.out⟩
set_option maxHeartbeats 8000000 in
set_option maxRecDepth 100000 in
theorem spec_NoteLights1 (A : Option Addr) (k c B : Nat) (zs : List Ent) (s : Int) (A2 : Option Addr) (n2 c2 B2 : Nat) (ls : List Int) (w : World) (h : EntsAt w B A (k + 1) zs) (hB : B ≤ w.heap.size) (hn : k + 1 ≤ 1048576) (hm : ∀ j, j < k + 1 → (entA zs j).lights.length ≤ 1048576) (h2 : IntsAt .i64 w B2 A2 n2 ls) (hB2 : B2 ≤ w.heap.size) (hnil : A2 = none → n2 = 0 ∧ c2 = 0) (hn2 : n2 ≤ 1048576) :
    Calls Try.prog 26 #[.slice A (k + 1) c, .int .i64 s, .slice A2 n2 c2] w fun e w' => ∃ v xs, e = .returned (.tuple #[v, .bool (noteE zs s ls).2]) ∧ OwnEnt w' w.heap.size v xs (noteE zs s ls).1 ∧ Below w.heap.size w w' := by
  have hl := h.1
  have hl2 := h2.1
  have HH := Lib.hid (fun x (hx : Below w.heap.size w x) => h.keep (hx.mono hB))
  have HI2 := Lib.hid (fun x (hx : Below w.heap.size w x) => (h2.keep (w' := x) (fun p hp => hx.cell (by omega))).up (Nat.le_trans hB2 hx.size))
  have HAE := Lib.hid (fun x (hx : Below w.heap.size w x) => spec_AddEntry A (k + 1) c B zs s A2 n2 c2 x.heap.size ls x (h.keep (hx.mono hB)) (Nat.le_trans hB hx.size) hn hm (HI2.out x hx) (Nat.le_refl _) hnil hn2)
  have HCP := Lib.hid (fun x (hx : Below w.heap.size w x) => spec_l27Copy A (k + 1) c B zs x (h.keep (hx.mono hB)) (Nat.le_trans hB hx.size) hn hm)
  have HIR := Lib.hid (fun x (hx : Below w.heap.size w x) => spec_IsRecord A (k + 1) c B zs x (h.keep (hx.mono hB)) (Nat.le_trans hB hx.size) (by omega) hm)
  have hlm1 := hm k (by omega)
  clear h h2 hm hnil
  obtain ⟨ad, A', m, c', rfl, hab, hq, hi, hmc, hnl⟩ := (HH.out w (Below.refl _ _)).at (j := k) (by omega)
  have him := hi.1
  have HEQ := Lib.hid (spec_EqualInts A' m c' B _ A2 n2 c2 w.heap.size ls w hi (HI2.out w (Below.refl _ _)) (by omega) (by omega))
  have HQ := Lib.hid (fun x (hx : Below w.heap.size w x) => hq.below hx (by omega))
  obtain ⟨k0, k1, k2⟩ := hq
  have b0 : ((((k + 1 : Nat) : Int)) == 0) = false := by simp; omega
  have i1 : (0 : Int) ≤ (k : Int) := by omega
  have HL := Lib.hid hl
  clear hi hnl him hl2 hmc
  by_cases he : (entA zs k).lights = ls
  · have hde : decide ((entA zs k).lights = ls) = true := decide_eq_true he
    rw [hde] at HEQ
    have HV := Lib.hid (noteE_same (s := s) HL.out he)
    clear hde he hl
    go_enter Try.func26, Try.ntmps26
    go_wp2_with fail
    refine HEQ.out.mono ?_
    rintro e w2 ⟨rfl, hb2⟩
    have HB2 := Lib.hid hb2
    clear k0 k1 k2 hb2
    go_wp2_with fail
    refine (HCP.out w2 HB2.out).mono ?_
    rintro e w3 ⟨v3, xs, rfl, ho3, hb3⟩
    have HB3 := Lib.hid (HB2.out.trans (hb3.mono HB2.out.size))
    have HO3 := Lib.hid (ho3.mono HB2.out.size)
    clear ho3 hb3
    go_wp2_with fail
    refine (HIR.out w3 HB3.out).mono ?_
    cases hrc : isRec zs
    · have HRES : Hid ((isRec zs && inB s 0 1000000 && decide ((entA zs k).second < s)) = false) := Lib.hid (by rw [hrc]; rfl)
      clear hrc
      rintro e w4 ⟨rfl, hb4⟩
      have HB4 := Lib.hid (HB3.out.trans (hb4.mono HB3.out.size))
      have HO4 := Lib.hid (HO3.out.below hb4)
      clear hb4
      go_wp2
      go_ret2
      exact ⟨v3, xs, by rw [HV.out, HRES.out]; rfl, by rw [HV.out]; exact HO4.out, HB4.out⟩
    have HRC := Lib.hid hrc
    clear hrc
    rintro e w4 ⟨rfl, hb4⟩
    have HB4 := Lib.hid (HB3.out.trans (hb4.mono HB3.out.size))
    have HO4 := Lib.hid (HO3.out.below hb4)
    clear hb4
    obtain ⟨k0, k1, k2⟩ := HQ.out w4 HB4.out
    clear k1 k2
    by_cases hcm : (entA zs k).second < s
    · have hdc : decide ((entA zs k).second < s) = true := decide_eq_true hcm
      obtain ⟨bq, hsec⟩ : ∃ bq, inB s 0 1000000 = bq := ⟨_, rfl⟩
      have HRES : Hid ((isRec zs && inB s 0 1000000 && decide ((entA zs k).second < s)) = bq) := Lib.hid (by rw [HRC.out, hdc, hsec]; simp)
      cases bq
      all_goals
        have HSEC := Lib.hid hsec
        clear hsec hdc
        go_wp2_with fail
        refine (spec_l1In _ _ _ _).mono ?_
        rintro e w5 ⟨rfl, rfl⟩
        rw [HSEC.out]
        go_wp2
        go_ret2
        exact ⟨v3, xs, by rw [HV.out, HRES.out]; rfl, by rw [HV.out]; exact HO4.out, HB4.out⟩
    · have hdc : decide ((entA zs k).second < s) = false := decide_eq_false hcm
      have HRES := Lib.hid (show (isRec zs && inB s 0 1000000 && decide ((entA zs k).second < s)) = false by rw [HRC.out, hdc]; simp)
      clear hdc
      go_wp2
      go_ret2
      first
        | exact ⟨v3, xs, by rw [HV.out, HRES.out]; rfl, by rw [HV.out]; exact HO4.out, HB4.out⟩
        | exact ⟨v3, by rw [HV.out, HRES.out]; rfl, ⟨xs, by rw [HV.out]; exact HO4.out⟩, HB4.out⟩
  · have hde : decide ((entA zs k).lights = ls) = false := decide_eq_false he
    rw [hde] at HEQ
    have HV := Lib.hid (noteE_add1 (s := s) HL.out he)
    clear hde he hl
    go_enter Try.func26, Try.ntmps26
    go_wp2_with fail
    refine HEQ.out.mono ?_
    rintro e w2 ⟨rfl, hb2⟩
    have HB2 := Lib.hid hb2
    clear k0 k1 k2 hb2
    go_wp2_with fail
    refine (HAE.out w2 HB2.out).mono ?_
    rintro e w3 ⟨v3, xs, rfl, ho, hb3⟩
    have HO := Lib.hid (ho.mono HB2.out.size)
    have HB3 := Lib.hid (HB2.out.trans (hb3.mono HB2.out.size))
    clear ho hb3
    go_wp2
    go_ret2
    exact ⟨v3, xs, by rw [HV.out]; rfl, by rw [HV.out]; exact HO.out, HB3.out⟩
theorem spec_NoteLights (A : Option Addr) (n c B : Nat) (zs : List Ent) (s : Int) (A2 : Option Addr) (n2 c2 B2 : Nat) (ls : List Int) (w : World) (h : EntsAt w B A n zs) (hB : B ≤ w.heap.size) (hn : n ≤ 1048576) (hm : ∀ j, j < n → (entA zs j).lights.length ≤ 1048576) (h2 : IntsAt .i64 w B2 A2 n2 ls) (hB2 : B2 ≤ w.heap.size) (hnil : A2 = none → n2 = 0 ∧ c2 = 0) (hn2 : n2 ≤ 1048576) :
    Calls Try.prog 26 #[.slice A n c, .int .i64 s, .slice A2 n2 c2] w fun e w' => ∃ v xs, e = .returned (.tuple #[v, .bool (noteE zs s ls).2]) ∧ OwnEnt w' w.heap.size v xs (noteE zs s ls).1 ∧ Below w.heap.size w w' := by
  cases n with
  | zero => exact spec_NoteLights0 A c B zs s A2 n2 c2 B2 ls w h hB hm h2 hB2 hnil hn2
  | succ k => exact spec_NoteLights1 A k c B zs s A2 n2 c2 B2 ls w h hB hn hm h2 hB2 hnil hn2
end Go.Proofs.Ytlpkafhapmkkfaa

/- AddEntry, NoteLights as exact laws meet them. -/
namespace Go.Proofs.Ytlpkafhapmkkfaa
open Go.RowKit
set_option linter.unusedVariables false

theorem sp_AddEntry (A0 : Option Addr) (n0 c0 : Nat) (zs0 : List Ent) (a1 : Int) (A2 : Option Addr) (n2 c2 : Nat) (zs2 : List Int) (w : World) (h0 : SlEnt w A0 n0 c0 zs0) (hs0 : SmallEnt zs0) (wa1 : (Lit.int .i64 a1).wf = true) (h2 : Sl .i64 w A2 n2 c2 zs2) (hs2 : n2 ≤ 1048576) (r0 : List Ent) (r1 : Bool) (hr : addE zs0 a1 zs2 = (r0, r1)) :
    Calls Try.prog 17 #[.slice A0 n0 c0, .int .i64 a1, .slice A2 n2 c2] w fun e w' => ∃ v, e = .returned (.tuple #[v, .bool r1]) ∧ (∃ us, OwnEnt w' w.heap.size v us r0) ∧ Below w.heap.size w w' ∧ SmallEnt r0 := by
  obtain rfl : (addE zs0 a1 zs2).1 = r0 := by rw [hr]
  obtain rfl : (addE zs0 a1 zs2).2 = r1 := by rw [hr]
  clear hr
  have hq0 := h0.pths.1
  have hz0 := hs0.1
  exact (spec_AddEntry A0 n0 c0 _ zs0 a1 A2 n2 c2 _ zs2 w h0.pths (Nat.le_refl _) (by omega) (hs0.at _ _ hq0.symm (Nat.le_refl _)) h2.ints (Nat.le_refl _) h2.bare hs2).mono fun e w' ⟨v, xs, h1, h2, h3⟩ => ⟨v, h1, ⟨xs, h2⟩, h3, addE_small hs0⟩
theorem im_AddEntry (A0 : Option Addr) (n0 c0 : Nat) (zs0 : List Ent) (a1 : Int) (A2 : Option Addr) (n2 c2 : Nat) (zs2 : List Int) (w : World) (h0 : SlEnt w A0 n0 c0 zs0) (hs0 : SmallEnt zs0) (wa1 : (Lit.int .i64 a1).wf = true) (h2 : Sl .i64 w A2 n2 c2 zs2) (hs2 : n2 ≤ 1048576) (r0 : List Ent) (r1 : Bool) (hr : addE zs0 a1 zs2 = (r0, r1)) :
    Calls Try.prog 20 #[.slice A0 n0 c0, .int .i64 a1, .slice A2 n2 c2] w fun e w' => ∃ v, e = .returned (.tuple #[v, .bool r1]) ∧ (∃ us, OwnEnt w' w.heap.size v us r0) ∧ Below w.heap.size w w' ∧ SmallEnt r0 := by
  obtain rfl : (addE zs0 a1 zs2).1 = r0 := by rw [hr]
  obtain rfl : (addE zs0 a1 zs2).2 = r1 := by rw [hr]
  clear hr
  have hq0 := h0.pths.1
  have hz0 := hs0.1
  exact (impl_AddEntry A0 n0 c0 _ zs0 a1 A2 n2 c2 _ zs2 w h0.pths (Nat.le_refl _) (by omega) (hs0.at _ _ hq0.symm (Nat.le_refl _)) h2.ints (Nat.le_refl _) h2.bare hs2).mono fun e w' ⟨v, xs, h1, h2, h3⟩ => ⟨v, h1, ⟨xs, h2⟩, h3, addE_small hs0⟩
theorem sp_NoteLights (A0 : Option Addr) (n0 c0 : Nat) (zs0 : List Ent) (a1 : Int) (A2 : Option Addr) (n2 c2 : Nat) (zs2 : List Int) (w : World) (h0 : SlEnt w A0 n0 c0 zs0) (hs0 : SmallEnt zs0) (wa1 : (Lit.int .i64 a1).wf = true) (h2 : Sl .i64 w A2 n2 c2 zs2) (hs2 : n2 ≤ 1048576) (r0 : List Ent) (r1 : Bool) (hr : noteE zs0 a1 zs2 = (r0, r1)) :
    Calls Try.prog 26 #[.slice A0 n0 c0, .int .i64 a1, .slice A2 n2 c2] w fun e w' => ∃ v, e = .returned (.tuple #[v, .bool r1]) ∧ (∃ us, OwnEnt w' w.heap.size v us r0) ∧ Below w.heap.size w w' ∧ SmallEnt r0 := by
  obtain rfl : (noteE zs0 a1 zs2).1 = r0 := by rw [hr]
  obtain rfl : (noteE zs0 a1 zs2).2 = r1 := by rw [hr]
  clear hr
  have hq0 := h0.pths.1
  have hz0 := hs0.1
  exact (spec_NoteLights A0 n0 c0 _ zs0 a1 A2 n2 c2 _ zs2 w h0.pths (Nat.le_refl _) (by omega) (hs0.at _ _ hq0.symm (Nat.le_refl _)) h2.ints (Nat.le_refl _) h2.bare hs2).mono fun e w' ⟨v, xs, h1, h2, h3⟩ => ⟨v, h1, ⟨xs, h2⟩, h3, noteE_small hs0⟩
theorem im_NoteLights (A0 : Option Addr) (n0 c0 : Nat) (zs0 : List Ent) (a1 : Int) (A2 : Option Addr) (n2 c2 : Nat) (zs2 : List Int) (w : World) (h0 : SlEnt w A0 n0 c0 zs0) (hs0 : SmallEnt zs0) (wa1 : (Lit.int .i64 a1).wf = true) (h2 : Sl .i64 w A2 n2 c2 zs2) (hs2 : n2 ≤ 1048576) (r0 : List Ent) (r1 : Bool) (hr : noteE zs0 a1 zs2 = (r0, r1)) :
    Calls Try.prog 27 #[.slice A0 n0 c0, .int .i64 a1, .slice A2 n2 c2] w fun e w' => ∃ v, e = .returned (.tuple #[v, .bool r1]) ∧ (∃ us, OwnEnt w' w.heap.size v us r0) ∧ Below w.heap.size w w' ∧ SmallEnt r0 := by
  obtain rfl : (noteE zs0 a1 zs2).1 = r0 := by rw [hr]
  obtain rfl : (noteE zs0 a1 zs2).2 = r1 := by rw [hr]
  clear hr
  have hq0 := h0.pths.1
  have hz0 := hs0.1
  exact (impl_NoteLights A0 n0 c0 _ zs0 a1 A2 n2 c2 _ zs2 w h0.pths (Nat.le_refl _) (by omega) (hs0.at _ _ hq0.symm (Nat.le_refl _)) h2.ints (Nat.le_refl _) h2.bare hs2).mono fun e w' ⟨v, xs, h1, h2, h3⟩ => ⟨v, h1, ⟨xs, h2⟩, h3, noteE_small hs0⟩
end Go.Proofs.Ytlpkafhapmkkfaa

/- A law's arguments that are rows of Entry (written by genrow.py). -/
namespace Go.Proofs.Ytlpkafhapmkkfaa
open Go.ChangeShapes Go.WideShapes Go.ChangeAt Go.RowKit Go.Joins
open Go.Deep (oneCellFields open_slice hone_of)
set_option linter.unusedVariables false

section
variable {H : Type} {enc : TypeId × Value → H} {P : Program}
theorem arg_ent {t i : TypeId} {f0 f1 f2 : Field} {W : World} {base : Nat} {v : Value} {d : DataW H} {ps : List MemPlace} (hs : P.underlying t = some (.struct #[f0, f1, f2])) (hone : oneCellFields P #[f0, f1, f2] = true) (hC : P.cellsOf t = 3)
    (h0 : P.underlying f0.type = some (.int .i64)) (h1 : P.underlying f1.type = some (.slice i)) (hi : P.underlying i = some (.int .i64)) (hci : P.cellsOf i = 1) (h2 : P.underlying f2.type = some (.int .i64))
    (hval : Value.okWide P W .any base t v) (hd : DataW.Trod enc P W 0 (fun _ => true) true t v d ps) (hlt : ∀ x ∈ ps, x.block < W.heap.size) :
    ∃ (A : Option Addr) (n c : Nat) (zs : List Int) (x0 x2 : Int), v = .agg #[.int .i64 x0, .slice A n c, .int .i64 x2] ∧ (IntsAt .i64 W W.heap.size A n zs ∧ (∀ z ∈ zs, (Lit.int .i64 z).wf = true) ∧ n ≤ c ∧ c ≤ maxLen) ∧ (Lit.int .i64 x0).wf = true ∧ (Lit.int .i64 x2).wf = true := by
  obtain ⟨v0, v1, v2, y0, y1, y2, n, rfl, -, hps, t0, t1, t2⟩ := open_agg3 hs hone hC hval hd
  obtain ⟨x0, rfl, w0, -⟩ := cell_int h0 t0
  obtain ⟨x2, rfl, w2, -⟩ := cell_int h2 t2
  rcases open_ints h1 hi hci t1 with ⟨h2, _⟩ | ⟨b, l2, cp2, zs, h2, _, hl2, hm2, hzl2, hx2, hc2, hwf2⟩
  · simp only [List.cons.injEq, and_true] at h2
    subst h2
    exact ⟨none, 0, 0, [], _, _, rfl, ⟨⟨rfl, fun h => absurd h (by omega)⟩, by simp, Nat.le_refl _, Nat.zero_le _⟩, w0, w2⟩
  · simp only [List.cons.injEq, and_true] at h2
    subst h2
    rw [if_pos rfl] at hzl2
    refine ⟨some b, l2, cp2, zs.take l2, _, _, rfl, ⟨⟨by simp only [List.length_take]; omega, fun hn => ⟨b, rfl, ?_, fun q hq => ?_⟩⟩, fun z hzm => hwf2 z (List.mem_of_mem_take hzm), hl2, hm2⟩, w0, w2⟩
    · have hmem : MemPlace.cell b.block (b.off + 0) ∈ ps := by
        rw [hps]
        have e2 : y1.2 = MemPlace.row b zs.length := congrArg Prod.snd hx2
        have hin : MemPlace.cell b.block (b.off + 0) ∈ y1.2 := by
          rw [e2]
          exact List.mem_map.2 ⟨0, List.mem_range.2 (by omega), rfl⟩
        simp only [List.mem_append]
        first | exact hin | exact Or.inl hin | exact Or.inr hin | exact Or.inr (Or.inl hin) | exact Or.inr (Or.inr hin)
      exact hlt _ hmem
    · rw [hc2 q (by omega)]
      simp [List.getD_eq_getElem?_getD, hq]
theorem arg_ents {t e i : TypeId} {f0 f1 f2 : Field} {W : World} {base : Nat} {v : Value} {d : DataW H} {ps : List MemPlace} (ht : P.underlying t = some (.slice e)) (he : P.underlying e = some (.struct #[f0, f1, f2])) (hone : oneCellFields P #[f0, f1, f2] = true) (hC : P.cellsOf e = 3)
    (h0 : P.underlying f0.type = some (.int .i64)) (h1 : P.underlying f1.type = some (.slice i)) (hi : P.underlying i = some (.int .i64)) (hci : P.cellsOf i = 1) (h2 : P.underlying f2.type = some (.int .i64))
    (hval : Value.okWide P W .any base t v) (hd : DataW.Trod enc P W 0 (fun _ => true) true t v d ps) (hlt : ∀ x ∈ ps, x.block < W.heap.size) :
    ∃ (A : Option Addr) (n c : Nat) (zs : List Ent), v = .slice A n c ∧ (EntsAt W W.heap.size A n zs ∧ (∀ z ∈ zs, z.wf) ∧ n ≤ c ∧ c ≤ maxLen) := by
  obtain ⟨a, len, cap, rfl⟩ := okWide_slice ht hval
  obtain ⟨fuel, hf⟩ := hd
  rcases open_slice_fields ht he hone (by rw [hC]; rfl) hf with ⟨h1, _⟩ | ⟨a', len', cap', m, D, Pl, hcs, _, hl, hm, hmm, hx, hii⟩
  · have h1' : [Value.slice a len cap] = [Value.slice none 0 0] := h1
    simp only [List.cons.injEq, and_true] at h1'
    exact ⟨none, 0, 0, [], h1', ⟨rfl, fun h => absurd h (by omega)⟩, by simp, Nat.le_refl _, Nat.zero_le _⟩
  · have h1' : [Value.slice a len cap] = [Value.slice (some a') len' cap'] := hcs
    simp only [List.cons.injEq, and_true] at h1'
    rw [if_pos rfl] at hmm
    subst hmm
    have hps : ps = MemPlace.row a' (m * 3) ++ (List.range m).flatMap Pl := congrArg Prod.snd hx
    obtain ⟨zs, hzl, hz⟩ := choose_upto (n := len') (R := fun j (p : Ent) => p.wf ∧ ∃ A' m' c', EntAt W (a'.add (j * 3)) (.slice A' m' c') p ∧ IntsAt .i64 W W.heap.size A' m' p.lights ∧ (m' ≤ c' ∧ c' ≤ maxLen) ∧ (A' = none → m' = 0 ∧ c' = 0)) (fun j hjl => by
      obtain ⟨ys, n, _, hPl, _, hj⟩ := hii j (by omega)
      obtain ⟨v0, y0, c0, g0, t0⟩ := hj 0 f0 rfl
      obtain ⟨v1, y1, c1, g1, t1⟩ := hj 1 f1 rfl
      obtain ⟨v2, y2, c2, g2, t2⟩ := hj 2 f2 rfl
      obtain ⟨x0, rfl, w0, -⟩ := cell_int h0 t0
      obtain ⟨x2, rfl, w2, -⟩ := cell_int h2 t2
      have d1 : W.cell? ⟨(a'.add (j * 3)).block, (a'.add (j * 3)).off + 1, none⟩ = some v1 := by
        rw [← add_plusF _ 1 (by decide), add_add]
        exact c1
      have d2 : W.cell? ⟨(a'.add (j * 3)).block, (a'.add (j * 3)).off + 2, none⟩ = some (.int .i64 x2) := by
        rw [← add_plusF _ 2 (by decide), add_add]
        exact c2
      have d0 := c0
      rcases open_ints h1 hi hci t1 with ⟨h2, _⟩ | ⟨b, l2, cp2, zs, h2, _, hl2, hm2, hzl2, hx2, hc2, hwf2⟩
      · simp only [List.cons.injEq, and_true] at h2
        exact ⟨⟨x0, [], x2⟩, ⟨Nat.zero_le _, by simp, w0, w2⟩, none, 0, 0, ⟨d0, by rw [← h2]; exact d1, d2⟩, ⟨rfl, fun h => absurd h (by omega)⟩, ⟨Nat.le_refl _, Nat.zero_le _⟩, fun _ => ⟨rfl, rfl⟩⟩
      · simp only [List.cons.injEq, and_true] at h2
        rw [if_pos rfl] at hzl2
        refine ⟨⟨x0, zs.take l2, x2⟩, ⟨by simp only [List.length_take]; omega, fun z hzm => hwf2 z (List.mem_of_mem_take hzm), w0, w2⟩, some b, l2, cp2, ⟨d0, by rw [← h2]; exact d1, d2⟩, ⟨by simp only [List.length_take]; omega, fun hn => ⟨b, rfl, ?_, fun q hq => ?_⟩⟩, ⟨hl2, hm2⟩, by simp⟩
        · have hmem : MemPlace.cell b.block (b.off + 0) ∈ ps := by
            rw [hps]
            refine List.mem_append_right _ (List.mem_flatMap.2 ⟨j, List.mem_range.2 (by omega), ?_⟩)
            rw [hPl]
            refine List.mem_flatMap.2 ⟨y1, List.mem_of_getElem? g1, ?_⟩
            have e2 : y1.2 = MemPlace.row b zs.length := congrArg Prod.snd hx2
            rw [e2]
            exact List.mem_map.2 ⟨0, List.mem_range.2 (by omega), rfl⟩
          exact hlt _ hmem
        · rw [hc2 q (by omega)]
          simp [List.getD_eq_getElem?_getD, hq])
    refine ⟨some a', len', m, zs, h1', ⟨hzl, fun hn => ⟨a', rfl, ?_, fun j hj => ?_⟩⟩, fun z hzm => ?_, hl, hm⟩
    · have hmem : MemPlace.cell a'.block (a'.off + 0) ∈ ps := by
        rw [hps]
        exact List.mem_append_left _ (List.mem_map.2 ⟨0, List.mem_range.2 (by omega), rfl⟩)
      exact hlt _ hmem
    · exact (hz j _ (entA_get (by omega))).2
    · obtain ⟨j, hj, rfl⟩ := List.getElem_of_mem hzm
      exact (hz j _ (List.getElem?_eq_getElem hj)).1
end
end Go.Proofs.Ytlpkafhapmkkfaa
