/- PathText: program and model. -/
import Derived.Test.YteilcbmpmeggcaaDoorPathI
import Derived.Test.YteilcbmpmeggcaaDoorTables
import Derived.Laws.Concat
namespace Go.Proofs.YteilcbmpmeggcaaDoor
open Go.RowKit
set_option linter.unusedVariables false

def kindL (k : Int) : UInt8 := if k = 1 then 99 else if k = 2 then 119 else 98
def bs (l : List UInt8) : ByteArray := ⟨l.toArray⟩
/-- what PathText answers. -/
def pathT (p : Pth) : ByteArray := if isP p then bs (((fmtI p.id ++ [kindL p.kind]) ++ fmtI p.frm) ++ fmtI p.to) else ⟨#[]⟩
theorem pathT_no {p : Pth} (h : isP p = false) : pathT p = ⟨#[]⟩ := by unfold pathT; rw [h]; rfl
theorem pathT_yes {p : Pth} (h : isP p = true) : pathT p = bs (((fmtI p.id ++ [kindL p.kind]) ++ fmtI p.frm) ++ fmtI p.to) := by unfold pathT; rw [h]; rfl
theorem bs_app (x y : List UInt8) : bs x ++ bs y = bs (x ++ y) := ByteArray.mk_append_mk x y
theorem bs_size (x : List UInt8) : (bs x).size = x.length := by simp [bs, ByteArray.size]
theorem add_bs {P : Program} {s t u : ByteArray} (x y : List UInt8) (hs : s = bs x) (ht : t = bs y) (hu : u = bs (x ++ y)) (hx : x.length ≤ 1000) (hy : y.length ≤ 1000) (w : World) : (Op.stringOp .add s t).run P w = .ok (.string u) w := by
  rw [run_string_add_sum w _ _ (by rw [hs, ht, bs_size, bs_size]; omega), hs, ht, hu, bs_app]
theorem fmt_small (n : Int) (h0 : 0 ≤ n) (h1 : n ≤ 100) : (fmtI n).length ≤ 20 := fmtI_length n (by omega)
theorem kind_enc (k : Int) (h : k = 1 ∨ k = 2 ∨ k = 3) : Utf8.encode (((kindL k).toNat : Nat) : Int) = bs [kindL k] := by
  rcases h with rfl | rfl | rfl <;> kernel_rfl
theorem kind_at (k : Int) (h : k = 1 ∨ k = 2 ∨ k = 3) (w : World) : (Instr.index 9 (.string ⟨#[99, 119, 98]⟩) (.int .i64 (k - 1))).run Tryd.prog w = .ok (.int .u8 (((kindL k).toNat : Nat) : Int)) w := by
  rcases h with rfl | rfl | rfl <;> kernel_rfl
theorem impl_PathText (p : Pth) (w : World) (ht : Tabs w) : Calls Tryd.prog 12 #[p.val] w fun e w' => e = .returned (.string (pathT p)) ∧ Below w.heap.size w w' := by
  have hn := fun h => Lib.hid (pathT_no (p := p) h)
  have hy := fun h => Lib.hid (pathT_yes (p := p) h)
  have hr := isP_facts p
  have hcp := fun x => impl_pack p x
  have hno := fun h => packN_no (p := p) h
  have hyes := fun h => (packN_yes (p := p) h).2
  have hf := fun h => Lib.hid (packN_frm (p := p) h)
  have htt := fun h => Lib.hid (packN_to (p := p) h)
  have hk := fun h => Lib.hid (packN_kind (p := p) h)
  have hi := fun h => Lib.hid (packN_id (p := p) h)
  generalize packN p = v at *
  generalize pathT p = r at *
  have HT := Lib.hid ht
  clear ht
  obtain ⟨a, b, c, d⟩ := p
  simp only [Pth.val] at *
  go_enter Tryd.func12, Tryd.ntmps12
  go_wp2_with fail
  refine (hcp _).mono ?_
  rintro e w1 ⟨rfl, hb⟩
  have hb1 := ((Below.refl w.heap.size w).alloc (Nat.le_refl _) (.cells #[.int .i64 a, .int .i64 b, .int .i64 c, .int .i64 d] 25)).trans (hb.mono (by simp))
  have HB := Lib.hid hb1
  have HT1 := Lib.hid (HT.out.below hb1 (Nat.le_refl _))
  clear hb hb1 hcp
  cases hp : isP ⟨a, b, c, d⟩
  · have HR := hn hp
    obtain rfl := hno hp
    clear hno hyes hf htt hr hp hn hy hk hi
    go_wp2
    go_ret
    exact ⟨by rw [HR.out]; rfl, HB.out⟩
  · have HR := hy hp
    obtain ⟨v0, v1⟩ := hyes hp
    have gf := hf hp
    have gt := htt hp
    have gk := hk hp
    have gi := hi hp
    have vz : (v == 0) = false := by simp; omega
    obtain ⟨⟨k1, k2⟩, ⟨k3, k4⟩, ⟨g1, g2⟩, ⟨g3, g4⟩, _⟩ := hr hp
    clear hno hyes hf htt hr hp hn hy hk hi
    have hb3 : b = 1 ∨ b = 2 ∨ b = 3 := by omega
    have la := fmt_small a (by omega) (by omega)
    have lc := fmt_small c (by omega) (by omega)
    have ld := fmt_small d (by omega) (by omega)
    have hat := kind_at b hb3
    have hen := kind_enc b hb3
    have g1 := add_bs (P := Tryd.prog) (fmtI a) [kindL b] rfl rfl rfl (by omega) (by simp)
    have g2 := add_bs (P := Tryd.prog) (fmtI a ++ [kindL b]) (fmtI c) rfl rfl rfl (by simp; omega) (by omega)
    have g3 := add_bs (P := Tryd.prog) ((fmtI a ++ [kindL b]) ++ fmtI c) (fmtI d) rfl rfl rfl (by simp; omega) (by omega)
    have HS := Lib.hid HR.out
    have fa : Hid ((⟨(fmtI a).toArray⟩ : ByteArray) = bs (fmtI a)) := Lib.hid rfl
    have fc : Hid ((⟨(fmtI c).toArray⟩ : ByteArray) = bs (fmtI c)) := Lib.hid rfl
    have fd : Hid ((⟨(fmtI d).toArray⟩ : ByteArray) = bs (fmtI d)) := Lib.hid rfl
    generalize bs (((fmtI a ++ [kindL b]) ++ fmtI c) ++ fmtI d) = s3 at *
    generalize bs ((fmtI a ++ [kindL b]) ++ fmtI c) = s2 at *
    generalize bs (fmtI a ++ [kindL b]) = s1 at *
    generalize bs (fmtI a) = sa at *
    generalize bs (fmtI c) = sc at *
    generalize bs (fmtI d) = sd at *
    generalize bs [kindL b] = sk at *
    generalize (((kindL b).toNat : Nat) : Int) = kc at *
    clear la lc ld HR hb3
    go_wp2_with fail
    refine (impl_kind v _ (by omega) (by omega)).mono ?_
    rintro e w2 ⟨rfl, rfl⟩
    rw [gk.out]
    go_wp2_with fail
    refine (impl_id v _ (by omega) (by omega)).mono ?_
    rintro e w2 ⟨rfl, rfl⟩
    rw [gi.out]
    go_wp2_with fail
    refine (impl_FormatInt _ _ (by omega) (by omega) HT1.out).mono ?_
    rw [fa.out]
    rintro e w2 ⟨rfl, hb⟩
    have HB2 := Lib.hid (HB.out.trans (hb.mono HB.out.size))
    have HT2 := Lib.hid (HT.out.below HB2.out (Nat.le_refl _))
    clear hb
    go_wp2_with fail
    refine (impl_from v _ (by omega) (by omega)).mono ?_
    rintro e w3 ⟨rfl, rfl⟩
    rw [gf.out]
    go_wp2_with fail
    refine (impl_FormatInt _ _ (by omega) (by omega) HT2.out).mono ?_
    rw [fc.out]
    rintro e w3 ⟨rfl, hb⟩
    have HB3 := Lib.hid (HB2.out.trans (hb.mono HB2.out.size))
    have HT3 := Lib.hid (HT.out.below HB3.out (Nat.le_refl _))
    clear hb
    go_wp2_with fail
    refine (impl_to v _ (by omega) (by omega)).mono ?_
    rintro e w4 ⟨rfl, rfl⟩
    rw [gt.out]
    go_wp2_with fail
    refine (impl_FormatInt _ _ (by omega) (by omega) HT3.out).mono ?_
    rw [fd.out]
    rintro e w4 ⟨rfl, hb⟩
    have HB4 := Lib.hid (HB3.out.trans (hb.mono HB3.out.size))
    clear hb
    go_wp2
    go_ret
    exact ⟨by rw [HS.out]; rfl, HB4.out⟩
end Go.Proofs.YteilcbmpmeggcaaDoor
