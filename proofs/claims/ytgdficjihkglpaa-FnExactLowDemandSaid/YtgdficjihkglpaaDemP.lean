/- Chapter 10's answers as Lean data; no program. -/
import Derived.Test.YtgdficjihkglpaaDet
import Derived.Test.YtgdficjihkglpaaTog
namespace Go.Proofs.Ytgdficjihkglpaa
open Go.RowKit
set_option linter.unusedVariables false

def det0 : Det := ⟨0, 0, 0, false⟩
/-- the j-th detector. -/
def dAt (ds : List Det) (j : Nat) : Det := ds.getD j det0
theorem dAt_some {ds : List Det} {k : Nat} {p : Det} (h : ds[k]? = some p) : dAt ds k = p := by simp [dAt, List.getD, h]
theorem dAt_get {ds : List Det} {k : Nat} (h : k < ds.length) : ds[k]? = some (dAt ds k) := by
  rw [List.getElem?_eq_getElem h]
  simp [dAt, List.getD, List.getElem?_eq_getElem h]
/-- what IsTrusted answers. -/
def trust (d : Det) : Bool := !d.broken && decide (d.age ≤ 900)
/-- a trusted detector of this path. -/
def trFor (id : Int) (d : Det) : Bool := decide (d.path = id) && trust d
/-- the index of the first one. -/
def trK (id : Int) : List Det → Option Nat
  | [] => none
  | d :: ds => if trFor id d then some 0 else (trK id ds).map (· + 1)
theorem trK_some {id : Int} : ∀ {ds : List Det} {k : Nat}, (∀ j, j < k → trFor id (dAt ds j) = false) → k < ds.length → trFor id (dAt ds k) = true → trK id ds = some k
  | [], k, _, h, _ => by simp at h
  | x :: ds, 0, _, h, hp => by
    have : trFor id x = true := hp
    simp [trK, this]
  | x :: ds, k + 1, hn, h, hp => by
    have h0 : trFor id x = false := hn 0 (by omega)
    have ih := trK_some (ds := ds) (k := k) (fun j hj => hn (j + 1) (by omega)) (by simpa using h) hp
    simp [trK, h0, ih]
theorem trK_none {id : Int} : ∀ {ds : List Det}, (∀ j, j < ds.length → trFor id (dAt ds j) = false) → trK id ds = none
  | [], _ => rfl
  | x :: ds, hn => by
    have h0 : trFor id x = false := hn 0 (by simp)
    have ih := trK_none (ds := ds) (fun j hj => hn (j + 1) (by simpa using hj))
    simp [trK, h0, ih]
theorem trK_at {id : Int} : ∀ {ds : List Det} {k : Nat}, trK id ds = some k → k < ds.length
  | [], k, h => by simp [trK] at h
  | x :: ds, k, h => by
    unfold trK at h
    split at h
    · simp at h; subst h; simp
    · cases e : trK id ds with
      | none => rw [e] at h; simp at h
      | some m =>
        rw [e] at h
        simp at h
        subst h
        have := trK_at e
        simpa using this
/-- the count of the first trusted one, or else the other number. -/
def cntD (ds : List Det) (id other : Int) : Int := match trK id ds with | none => other | some k => (dAt ds k).count
def lowD (ds : List Det) (id : Int) : Int := cntD ds id 0
def highD (ds : List Det) (id : Int) : Int := cntD ds id 1000
/-- the greatest of the first k. -/
def stgTo (ds : List Det) (zs : List Int) : Nat → Int
  | 0 => 0
  | k + 1 => if k = 0 then lowD ds (zs.getD 0 0) else maxI (stgTo ds zs k) (lowD ds (zs.getD k 0))
/-- what StageDemand answers. -/
def stgD (ds : List Det) (zs : List Int) : Int := stgTo ds zs zs.length
/-- what BlindPaths answers. -/
def blindP (ps : List Pth) (ds : List Det) : List Int := (ps.filter fun p => (trK p.id ds).isNone).map Pth.id
theorem blind_zero (ps : List Pth) (ds : List Det) : blindP (ps.take 0) ds = [] := by simp [blindP]
theorem blind_yes {ps : List Pth} {ds : List Det} {k : Nat} {p : Pth} (hp : ps[k]? = some p) (h : (trK p.id ds).isNone = true) : blindP (ps.take (k + 1)) ds = blindP (ps.take k) ds ++ [p.id] := by
  unfold blindP
  rw [List.take_add_one, hp, List.filter_append]
  simp only [Option.toList, List.filter_cons, List.filter_nil, h, if_true, List.map_append, List.map_cons, List.map_nil]
theorem blind_no {ps : List Pth} {ds : List Det} {k : Nat} {p : Pth} (hp : ps[k]? = some p) (h : (trK p.id ds).isNone = false) : blindP (ps.take (k + 1)) ds = blindP (ps.take k) ds := by
  unfold blindP
  rw [List.take_add_one, hp, List.filter_append]
  simp [Option.toList, List.filter_cons, List.filter_nil, h]
theorem blind_len (ps : List Pth) (ds : List Det) (k : Nat) : (blindP (ps.take k) ds).length ≤ k := by
  unfold blindP
  rw [List.length_map]
  exact Nat.le_trans (List.length_filter_le _ _) (by rw [List.length_take]; omega)
/-- the i-th detector's own numbers are good. -/
def okD (ps : List Pth) (ds : List Det) (i : Nat) : Bool := decide (0 ≤ findI (dAt ds i).path ps) && inB (dAt ds i).count 0 1000 && inB (dAt ds i).age 0 100000
/-- no earlier one is for the same path. -/
def newD (ds : List Det) (i : Nat) : Bool := (List.range i).all fun k => !decide ((dAt ds k).path = (dAt ds i).path)
def goodD (ps : List Pth) (ds : List Det) (i : Nat) : Bool := okD ps ds i && newD ds i
/-- what AreDetectors answers. -/
def areD (ps : List Pth) (ds : List Det) : Bool := (List.range ds.length).all (goodD ps ds) && (arePs ps && decide (ds.length ≤ 12))
theorem areD_no {ps : List Pth} {ds : List Det} {i : Nat} (hi : i < ds.length) (h : goodD ps ds i = false) : areD ps ds = false := by
  unfold areD
  have : (List.range ds.length).all (goodD ps ds) = false := by
    rw [Bool.eq_false_iff]
    intro ha
    have := List.all_eq_true.1 ha i (List.mem_range.2 hi)
    rw [h] at this
    cases this
  rw [this]
  rfl
theorem areD_end {ps : List Pth} {ds : List Det} (h : ∀ i, i < ds.length → goodD ps ds i = true) : areD ps ds = (arePs ps && decide (ds.length ≤ 12)) := by
  unfold areD
  have : (List.range ds.length).all (goodD ps ds) = true := List.all_eq_true.2 fun k hk => h k (List.mem_range.1 hk)
  rw [this]
  simp
theorem newD_no {ds : List Det} {i k : Nat} (hk : k < i) (h : (dAt ds k).path = (dAt ds i).path) : newD ds i = false := by
  unfold newD
  rw [Bool.eq_false_iff]
  intro ha
  have := List.all_eq_true.1 ha k (List.mem_range.2 hk)
  simp [h] at this
theorem newD_yes {ds : List Det} {i : Nat} (h : ∀ k, k < i → (dAt ds k).path ≠ (dAt ds i).path) : newD ds i = true := by
  unfold newD
  refine List.all_eq_true.2 fun k hk => ?_
  have := h k (List.mem_range.1 hk)
  simp [this]
theorem cntD_bound {ds : List Det} (h : ∀ d ∈ ds, d.wf) (id other : Int) (ho : -9223372036854775808 ≤ other ∧ other ≤ 9223372036854775807) : -9223372036854775808 ≤ cntD ds id other ∧ cntD ds id other ≤ 9223372036854775807 := by
  unfold cntD
  split
  · exact ho
  · rename_i k hk
    have hl := trK_at hk
    have hw := h (dAt ds k) (List.mem_of_getElem? (dAt_get hl))
    exact i64_of_wf hw.2.1
end Go.Proofs.Ytgdficjihkglpaa
