/- Package-level errors: what a walk knows of them; errors.Is. -/
import Derived.Test.YtglgmikeancimaaDoorLawVars
import Derived.Stop.LaidErr
import Derived.Stop.Asserts
import Derived.Stop.IfaceNil
import Derived.LaidEql
namespace Go.Proofs.YtglgmikeancimaaDoor
open Go.RowKit Go.Extern.Stop Go.Stop Go.Extern
set_option linter.unusedVariables false

/-- the variable g holds an error of errors.New's make. -/
def Sent (w : World) (g : Nat) : Prop := ∃ a : Addr, w.cell? ⟨g, 0, none⟩ = some (.iface 70 (.pointer (some a)))
theorem Sent.below {w w' : World} {g B : Nat} (h : Sent w g) (hb : Below B w w') (hB : w.heap.size ≤ B) : Sent w' g := by
  obtain ⟨a, h⟩ := h
  refine ⟨a, (World.cell?_of_block (hb.block g ?_)).trans h⟩
  refine Nat.lt_of_lt_of_le ?_ hB
  rcases Nat.lt_or_ge g w.heap.size with hl | hl
  · exact hl
  · simp [World.cell?, Array.getElem?_eq_none hl] at h
theorem err_row (u : TypeId) (h : Tryd.prog.typeName? 3 u = some "*errors.errorString") : u = 70 :=
  typeName_ptr_named (nm := "errors.errorString") (by rw [show "*" ++ "errors.errorString" = "*errors.errorString" from by decide]; kernel_rfl) (by kernel_rfl) (by decide) u (by rw [show "*" ++ "errors.errorString" = "*errors.errorString" from by decide]; exact h)
theorem sent_of_laid {laid : List (String × DataW Unit)} {W : World} {n : String} {g : Nat} {text : List UInt8} (hL : laidMetH Tryd.prog laid W) (hg : Tryd.prog.globalNamed n = some g) (ht : (Tryd.prog.globals[g]?).map (·.type) = some 44)
    (e : (laid.filter fun x => x.1 == n) = [(n, .iface "*errors.errorString" (.ptr (.agg [.lit (.string text)])))]) : Sent W g := by
  have h := hL.filter fun x => x.1 == n
  rw [e, MakeChecks.laidMetH_plain _ _ _ (by rfl)] at h
  obtain ⟨a, s, hv, _⟩ := laid_sentinel h hg ht Tryd.underlying44 err_row Tryd.underlying70 Tryd.underlying96 rfl rfl Tryd.underlying9 (by kernel_rfl) (by kernel_rfl)
  exact ⟨a, by simpa using World.var?_cell hg hv 0⟩
theorem isTypeOf (v : Value) (w : World) : (Extern.ReflectliteType.typeOf #[.iface 70 v]).run Tryd.prog w = .ok (.iface 59 (.agg #[.pointer (some ⟨2, 70, none⟩)])) w := by kernel_rfl
/-- what Comparable answers. -/
def cmpFn : Array Value → Sem Value := Extern.ReflectliteType.method fun t => do Rtype.noPackHeld "Comparable" t; pure (.bool (← typeInfo t).comparable)
theorem isComparable (w : World) : (cmpFn #[.agg #[.pointer (some ⟨2, 70, none⟩)]]).run Tryd.prog w = .ok (.bool true) w := by kernel_rfl
theorem isMethodComparable (v : Value) (w : World) : (Go.method 208 59 v "Comparable").run Tryd.prog w = .ok (57, v) w := by kernel_rfl
theorem isComp : (Tryd.prog.info? 70).map (·.comparable) = some true := by kernel_rfl
theorem isSize : (Tryd.prog.info? 96).map (·.size) = some 1 := by kernel_rfl
/-- errors.Is(x, x). -/
theorem is_same (a : Addr) (w : World) :
    Calls Tryd.prog 26 #[.iface 70 (.pointer (some a)), .iface 70 (.pointer (some a))] w fun e w' => e = .returned (.bool true) ∧ w' = w := by
  obtain ⟨i, hi, hcmp⟩ := Option.map_eq_some_iff.1 isComp
  obtain ⟨j, hj, hjs⟩ := Option.map_eq_some_iff.1 isSize
  have h8 := @run_callFunc_extern Tryd.prog 34 _ Extern.ReflectliteType.typeOf Tryd.func34 (by kernel_rfl) (by kernel_rfl) (by kernel_rfl) (by kernel_rfl)
  have h32 := @run_callFunc_extern Tryd.prog 57 _ cmpFn Tryd.func57 (by kernel_rfl) (by kernel_rfl) (by kernel_rfl) (by kernel_rfl)
  have tT := isTypeOf
  have cT := isComparable
  have mR := isMethodComparable
  have heq := run_eql_iface_ptr_same (P := Tryd.prog) w a Tryd.underlying44 Tryd.underlying70 hi hcmp hj
  go_enter Tryd.func26, Tryd.ntmps26
  go_wp2
  refine wp_loop_rounds 1 ?_
  rw [rounds_succ]
  go_wp2
  go_ret
  exact ⟨rfl, rfl⟩
/-- errors.Is(nil, x). -/
theorem is_nil (b : Addr) (w : World) :
    Calls Tryd.prog 26 #[.nilIface, .iface 70 (.pointer (some b))] w fun e w' => e = .returned (.bool false) ∧ w' = w := by
  have hn := run_eql_iface_nil_left (P := Tryd.prog) w 70 (.pointer (some b)) Tryd.underlying44
  go_enter Tryd.func26, Tryd.ntmps26
  go_wp2
  go_ret
  exact ⟨rfl, rfl⟩
end Go.Proofs.YtglgmikeancimaaDoor
