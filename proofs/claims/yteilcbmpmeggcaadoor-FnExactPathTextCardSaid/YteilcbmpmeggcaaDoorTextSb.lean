/- PathText of the model, at one kind. -/
import Derived.Test.YteilcbmpmeggcaaDoorTextS
namespace Go.Proofs.YteilcbmpmeggcaaDoor
open Go.RowKit
set_option linter.unusedVariables false
set_option maxHeartbeats 16000000 in
set_option maxRecDepth 100000 in
theorem spec_PathTextb (a c d : Int) (hp : isP ⟨a, 3, c, d⟩ = true) (w : World) : Calls Tryd.prog 41 #[.agg #[.int .i64 a, .int .i64 3, .int .i64 c, .int .i64 d]] w fun e w' => e = .returned (.string (pathT ⟨a, 3, c, d⟩)) ∧ Below w.heap.size w w' := by
  have HR := Lib.hid (pathT_yes hp)
  obtain ⟨⟨k1, k2⟩, ⟨k3, k4⟩, ⟨g1, g2⟩, ⟨g3, g4⟩, _⟩ := isP_facts _ hp
  simp only at k1 k2 k3 k4 g1 g2 g3 g4
  have hcc := fun x => spec_IsPath ⟨a, 3, c, d⟩ x
  have HP := Lib.hid hp
  have la := fmt_small a (by omega) (by omega)
  have lc := fmt_small c (by omega) (by omega)
  have ld := fmt_small d (by omega) (by omega)
  have hfa := fun x => fmtB a x (by omega) (by omega)
  have hfc := fun x => fmtB c x (by omega) (by omega)
  have hfd := fun x => fmtB d x (by omega) (by omega)
  have q1 := add_bs (P := Tryd.prog) (fmtI a) [98] rfl (show (⟨#[98]⟩ : ByteArray) = bs [98] from rfl) rfl (by omega) (by simp)
  have q2 := add_bs (P := Tryd.prog) (fmtI a ++ [98]) (fmtI c) rfl rfl rfl (by simp; omega) (by omega)
  have q3 := add_bs (P := Tryd.prog) ((fmtI a ++ [98]) ++ fmtI c) (fmtI d) rfl rfl rfl (by simp; omega) (by omega)
  have HS : Hid (pathT ⟨a, 3, c, d⟩ = bs (((fmtI a ++ [98]) ++ fmtI c) ++ fmtI d)) := Lib.hid HR.out
  generalize pathT ⟨a, 3, c, d⟩ = r at *
  generalize bs (((fmtI a ++ [98]) ++ fmtI c) ++ fmtI d) = s3 at *
  generalize bs ((fmtI a ++ [98]) ++ fmtI c) = s2 at *
  generalize bs (fmtI a ++ [98]) = s1 at *
  generalize bs (fmtI a) = sa at *
  generalize bs (fmtI c) = sc at *
  generalize bs (fmtI d) = sd at *
  clear la lc ld HR hp
  simp only [Pth.val] at *
  go_enter Tryd.func41, Tryd.ntmps41
  go_wp2_with fail
  refine (hcc _).mono ?_
  rw [HP.out]
  rintro e w1 ⟨rfl, hb⟩
  have hb1 := ((Below.refl w.heap.size w).alloc (Nat.le_refl _) (.cells #[.int .i64 a, .int .i64 3, .int .i64 c, .int .i64 d] 25)).trans (hb.mono (by simp))
  have HB := Lib.hid hb1
  have hlt : w.heap.size < w1.heap.size := by have := hb.size; simp at this; omega
  have c0 : w1.cell? ⟨w.heap.size, 0, none⟩ = some (.int .i64 a) := boxed hb 0
  have c1 : w1.cell? ⟨w.heap.size, 1, none⟩ = some (.int .i64 3) := boxed hb 1
  have c2 : w1.cell? ⟨w.heap.size, 2, none⟩ = some (.int .i64 c) := boxed hb 2
  have c3 : w1.cell? ⟨w.heap.size, 3, none⟩ = some (.int .i64 d) := boxed hb 3
  clear hb hb1 hcc
  go_wp2
  have hmx : Tryd.prog.follows .mixedOrders = true := by kernel_rfl
  have hdr : Below w1.heap.size w1 w1.drew := ⟨rfl, rfl, rfl, Nat.le_refl _, fun _ _ => rfl⟩
  refine wp_region_noPanic ?_
  refine wp_region_held_drew (S := fun W' => Below w1.heap.size w1 W') hmx hdr (fun hS => ?_)
  refine wpAnyH_take (i := 0) (v := .pointer (some ⟨w.heap.size, 0, none⟩)) rfl (by kernel_rfl) (by kernel_rfl) (by kernel_rfl) (fun _ _ _ h => h) (Or.inl ⟨by rfl, by intro W' _; go_simp⟩) hS ?_
  try simp only [Act.put, List.setIfInBounds_toArray, List.set_cons_zero, List.set_cons_succ]
  refine wpAnyH_take (i := 1) (v := .int .i64 a) rfl (by kernel_rfl) (by kernel_rfl) (by kernel_rfl) (fun _ _ _ h => h) (Or.inl ⟨by rfl, by intro W' hW; have hw := (hW.cell (p := ⟨w.heap.size, 0, none⟩) hlt).trans c0; clear hW; go_simp⟩) hS ?_
  try simp only [Act.put, List.setIfInBounds_toArray, List.set_cons_zero, List.set_cons_succ]
  refine wpAnyH_take (i := 4) (v := .pointer (some ⟨w.heap.size, 1, none⟩)) rfl (by kernel_rfl) (by kernel_rfl) (by kernel_rfl) (fun _ _ _ h => h) (Or.inl ⟨by rfl, by intro W' _; go_simp⟩) hS ?_
  try simp only [Act.put, List.setIfInBounds_toArray, List.set_cons_zero, List.set_cons_succ]
  refine wpAnyH_take (i := 5) (v := .int .i64 3) rfl (by kernel_rfl) (by kernel_rfl) (by kernel_rfl) (fun _ _ _ h => h) (Or.inl ⟨by rfl, by intro W' hW; have hw := (hW.cell (p := ⟨w.heap.size, 1, none⟩) hlt).trans c1; clear hW; go_simp⟩) hS ?_
  try simp only [Act.put, List.setIfInBounds_toArray, List.set_cons_zero, List.set_cons_succ]
  refine wpAnyH_take (i := 9) (v := .pointer (some ⟨w.heap.size, 2, none⟩)) rfl (by kernel_rfl) (by kernel_rfl) (by kernel_rfl) (fun _ _ _ h => h) (Or.inl ⟨by rfl, by intro W' _; go_simp⟩) hS ?_
  try simp only [Act.put, List.setIfInBounds_toArray, List.set_cons_zero, List.set_cons_succ]
  refine wpAnyH_take (i := 10) (v := .int .i64 c) rfl (by kernel_rfl) (by kernel_rfl) (by kernel_rfl) (fun _ _ _ h => h) (Or.inl ⟨by rfl, by intro W' hW; have hw := (hW.cell (p := ⟨w.heap.size, 2, none⟩) hlt).trans c2; clear hW; go_simp⟩) hS ?_
  try simp only [Act.put, List.setIfInBounds_toArray, List.set_cons_zero, List.set_cons_succ]
  refine wpAnyH_take (i := 13) (v := .pointer (some ⟨w.heap.size, 3, none⟩)) rfl (by kernel_rfl) (by kernel_rfl) (by kernel_rfl) (fun _ _ _ h => h) (Or.inl ⟨by rfl, by intro W' _; go_simp⟩) hS ?_
  try simp only [Act.put, List.setIfInBounds_toArray, List.set_cons_zero, List.set_cons_succ]
  refine wpAnyH_take (i := 14) (v := .int .i64 d) rfl (by kernel_rfl) (by kernel_rfl) (by kernel_rfl) (fun _ _ _ h => h) (Or.inl ⟨by rfl, by intro W' hW; have hw := (hW.cell (p := ⟨w.heap.size, 3, none⟩) hlt).trans c3; clear hW; go_simp⟩) hS ?_
  try simp only [Act.put, List.setIfInBounds_toArray, List.set_cons_zero, List.set_cons_succ]
  clear c0 c1 c2 c3 hdr
  repeat' (first
    | exact AllReadyH.nil
    | refine AllReadyH.cons rfl (fun K hK => ?_) ?_
    | (refine wpAnyH_done (by decide +kernel) ?_ _; refine NoPanic.normal ?_; have HB9 := Lib.hid (HB.out.trans (hS.mono HB.out.size)); clear hS HB; go_wp2)
    | (refine wpAnyH_take (i := 6) (v := ?_) rfl (by decide +kernel) (by decide +kernel) (by decide +kernel) (fun _ _ _ h => h) (Or.inl ⟨by rfl, ?_⟩) hS ?_; rotate_left; (intro W' _; go_simp; try with_reducible rfl); (try simp only [Act.put, List.setIfInBounds_toArray, List.set_cons_zero, List.set_cons_succ]))
    | (refine wpAnyH_take (i := 8) (v := ?_) rfl (by decide +kernel) (by decide +kernel) (by decide +kernel) (fun _ _ _ h => h) (Or.inl ⟨by rfl, ?_⟩) hS ?_; rotate_left; (intro W' _; go_simp; try with_reducible rfl); (try simp only [Act.put, List.setIfInBounds_toArray, List.set_cons_zero, List.set_cons_succ]))
    | (refine wpAnyH_take (i := 12) (v := ?_) rfl (by decide +kernel) (by decide +kernel) (by decide +kernel) (fun _ _ _ h => h) (Or.inl ⟨by rfl, ?_⟩) hS ?_; rotate_left; (intro W' _; go_simp; try with_reducible rfl); (try simp only [Act.put, List.setIfInBounds_toArray, List.set_cons_zero, List.set_cons_succ]))
    | refine wpAnyH_ready (rs := [2]) (by decide +kernel) (by simp) ?_
    | refine wpAnyH_ready (rs := [2, 3]) (by decide +kernel) (by simp) ?_
    | refine wpAnyH_ready (rs := [2, 7]) (by decide +kernel) (by simp) ?_
    | refine wpAnyH_ready (rs := [3]) (by decide +kernel) (by simp) ?_
    | refine wpAnyH_ready (rs := [3, 11]) (by decide +kernel) (by simp) ?_
    | refine wpAnyH_ready (rs := [3, 15]) (by decide +kernel) (by simp) ?_
    | refine wpAnyH_ready (rs := [7]) (by decide +kernel) (by simp) ?_
    | refine wpAnyH_ready (rs := [7, 11]) (by decide +kernel) (by simp) ?_
    | refine wpAnyH_ready (rs := [7, 15]) (by decide +kernel) (by simp) ?_
    | refine wpAnyH_ready (rs := [11]) (by decide +kernel) (by simp) ?_
    | refine wpAnyH_ready (rs := [15]) (by decide +kernel) (by simp) ?_
    | refine wpAnyH_ready (rs := [16]) (by decide +kernel) (by simp) ?_
    | refine wpAnyH_ready (rs := [17]) (by decide +kernel) (by simp) ?_
    | (go_simp
       (first
        | (refine hK.out _ _ ?_ (fun hS => ?_)
           · (first | exact hS | exact hS.alloc hS.size _)
           clear hK K
           try simp only [Act.put, List.setIfInBounds_toArray, List.set_cons_zero, List.set_cons_succ])
        | ((first | with_reducible refine (hfa _).mono ?_ | with_reducible refine (hfc _).mono ?_ | with_reducible refine (hfd _).mono ?_)
           rintro e w3 ⟨rfl, hb3⟩
           have hsz := hb3.size
           (try simp at hsz)
           (first | ((first | have z := boxed hb3 3 | have z := boxed (below_undrew hb3) 3); simp only [List.getElem?_toArray, List.getElem?_cons_succ, List.getElem?_cons_zero] at z) | (have z2 := (hb3.cell (by (try simp); omega)).trans z; clear z; have z := z2; clear z2) | skip)
           go_wp2_with fail
           refine hK.out _ _ (hS.trans (hb3.mono hS.size)) (fun hS => ?_)
           clear hK K
           try simp only [Act.put, List.setIfInBounds_toArray, List.set_cons_zero, List.set_cons_succ]))))
  all_goals
    go_ret
    exact ⟨by rw [HS.out]; rfl, HB9.out⟩
end Go.Proofs.YteilcbmpmeggcaaDoor
