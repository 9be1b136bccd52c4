/- Paths as Lean data: what chapter 4's functions answer. No program. -/
import Derived.Test.YtmcoeafkbpeelaaRow
import Derived.Test.YtmcoeafkbpeelaaInts
namespace Go.Proofs.Ytmcoeafkbpeelaa
open Go.RowKit

/-- a path. -/
structure Pth where
  id : Int
  kind : Int
  frm : Int
  to : Int
deriving DecidableEq
def Pth.cells (p : Pth) : List Value := [.int .i64 p.id, .int .i64 p.kind, .int .i64 p.frm, .int .i64 p.to]
def Pth.val (p : Pth) : Value := .agg #[.int .i64 p.id, .int .i64 p.kind, .int .i64 p.frm, .int .i64 p.to]
theorem Pth.cells_length (p : Pth) : p.cells.length = 4 := rfl
def Pth.wf (p : Pth) : Prop := (Lit.int .i64 p.id).wf = true ∧ (Lit.int .i64 p.kind).wf = true ∧ (Lit.int .i64 p.frm).wf = true ∧ (Lit.int .i64 p.to).wf = true
/-- what IsPath answers. -/
def isP (p : Pth) : Bool := inB p.id 1 20 && inB p.kind 1 3 && inB p.frm 0 3 && inB p.to 0 3 && (decide (p.frm = p.to) == decide (p.kind = 2))
def inPl (a : Int) : Int := if inB a 0 3 then 2 * a else -1
def outPl (a : Int) : Int := if inB a 0 3 then 2 * a + 1 else -1
/-- the four turns. -/
def turnN (n : Int) : ByteArray := if n = 0 then ⟨#[119, 97, 108, 107]⟩ else if n = 1 then ⟨#[110, 101, 120, 116]⟩ else if n = 2 then ⟨#[111, 118, 101, 114]⟩ else ⟨#[108, 97, 115, 116]⟩
/-- what TurnOf answers. -/
def turnS (p : Pth) : ByteArray := if isP p then turnN (modI (p.to - p.frm) 4) else ⟨#[]⟩
theorem isP_facts (p : Pth) : isP p = true → (1 ≤ p.id ∧ p.id ≤ 20) ∧ (1 ≤ p.kind ∧ p.kind ≤ 3) ∧ (0 ≤ p.frm ∧ p.frm ≤ 3) ∧ (0 ≤ p.to ∧ p.to ≤ 3) ∧ (p.frm = p.to ↔ p.kind = 2) := by
  intro h
  simp only [isP, inB, Bool.and_eq_true, decide_eq_true_eq, beq_iff_eq, decide_eq_decide] at h
  obtain ⟨⟨⟨⟨h1, h2⟩, h3⟩, h4⟩, h5⟩ := h
  exact ⟨h1, h2, h3, h4, h5⟩
/-- x is met when one goes from a upwards, before b. -/
def betw (a x b : Int) : Bool := decide ((x - a) % 8 < (b - a) % 8)
/-- what Interleave answers. -/
def inter (a b c d : Int) : Bool :=
  decide (a ≠ b ∧ a ≠ c ∧ a ≠ d ∧ b ≠ c ∧ b ≠ d ∧ c ≠ d) && inB a 0 7 && inB b 0 7 && inB c 0 7 && inB d 0 7 && (betw a c b != betw a d b)
/-- how many of c and d are met before the p-th place behind a. -/
def met (a c d : Int) (p : Nat) : Nat := (if (c - a) % 8 < p then 1 else 0) + (if (d - a) % 8 < p then 1 else 0)
/-- the first i of these numbers are different and in range. -/
def okNs (l : List Int) (i : Nat) : Prop := ∀ j, j < i → inB (l.getD j 0) 0 7 = true ∧ ∀ k, k < j → l.getD j 0 ≠ l.getD k 0
theorem okNs_step {l : List Int} {i : Nat} (h : okNs l i) (h1 : inB (l.getD i 0) 0 7 = true) (h2 : ∀ k, k < i → l.getD i 0 ≠ l.getD k 0) : okNs l (i + 1) := by
  intro j hj
  by_cases e : j = i
  · subst e; exact ⟨h1, h2⟩
  · exact h j (by omega)
theorem okNs_four {a b c d : Int} (h : okNs [a, b, c, d] 4) : (inB a 0 7 = true ∧ inB b 0 7 = true ∧ inB c 0 7 = true ∧ inB d 0 7 = true) ∧ a ≠ b ∧ a ≠ c ∧ a ≠ d ∧ b ≠ c ∧ b ≠ d ∧ c ≠ d := by
  have h0 := h 0 (by decide)
  have h1 := h 1 (by decide)
  have h2 := h 2 (by decide)
  have h3 := h 3 (by decide)
  have e1 := h1.2 0 (by decide)
  have e2 := h2.2 0 (by decide)
  have e3 := h2.2 1 (by decide)
  have e4 := h3.2 0 (by decide)
  have e5 := h3.2 1 (by decide)
  have e6 := h3.2 2 (by decide)
  simp at h0 h1 h2 h3 e1 e2 e3 e4 e5 e6
  exact ⟨⟨h0, h1.1, h2.1, h3.1⟩, fun e => e1 e.symm, fun e => e2 e.symm, fun e => e4 e.symm, fun e => e3 e.symm, fun e => e5 e.symm, fun e => e6 e.symm⟩
theorem inter_four {a b c d : Int} (h : okNs [a, b, c, d] 4) : inter a b c d = (betw a c b != betw a d b) := by
  obtain ⟨⟨h0, h1, h2, h3⟩, h4⟩ := okNs_four h
  unfold inter
  rw [h0, h1, h2, h3, decide_eq_true h4]
  simp
theorem inter_eq {a b c d : Int} {j k : Nat} (hk : k < j) (hj : j < 4) (h : [a, b, c, d].getD j 0 = [a, b, c, d].getD k 0) : inter a b c d = false := by
  have h4 : ¬ (a ≠ b ∧ a ≠ c ∧ a ≠ d ∧ b ≠ c ∧ b ≠ d ∧ c ≠ d) := by
    rintro ⟨e1, e2, e3, e4, e5, e6⟩
    match j, k, hk, hj with
    | 1, 0, _, _ => exact e1 (by simpa using h.symm)
    | 2, 0, _, _ => exact e2 (by simpa using h.symm)
    | 2, 1, _, _ => exact e4 (by simpa using h.symm)
    | 3, 0, _, _ => exact e3 (by simpa using h.symm)
    | 3, 1, _, _ => exact e5 (by simpa using h.symm)
    | 3, 2, _, _ => exact e6 (by simpa using h.symm)
  unfold inter
  rw [decide_eq_false h4]
  simp
theorem inter_out {a b c d : Int} {j : Nat} (hj : j < 4) (h : inB ([a, b, c, d].getD j 0) 0 7 = false) : inter a b c d = false := by
  unfold inter
  match j, hj with
  | 0, _ => simp at h; simp [h]
  | 1, _ => simp at h; simp [h]
  | 2, _ => simp at h; simp [h]
  | 3, _ => simp at h; simp [h]
theorem met_end (a b c d : Int) : (decide (met a c d ((b - a) % 8).toNat = 1)) = (betw a c b != betw a d b) := by
  have e : (((b - a) % 8).toNat : Int) = (b - a) % 8 := by omega
  unfold met betw
  by_cases h1 : (c - a) % 8 < (b - a) % 8 <;> by_cases h2 : (d - a) % 8 < (b - a) % 8 <;> simp [e, h1, h2]
/-- what Conflict answers. -/
def conf (a b : Pth) : Bool :=
  if isP a && isP b && !(decide (a.kind = 2) && decide (b.kind = 2)) then
    if a.kind = 2 then decide (b.frm = a.frm) || decide (b.to = a.frm)
    else if b.kind = 2 then decide (a.frm = b.frm) || decide (a.to = b.frm)
    else if a.frm = b.frm then false
    else if a.to = b.to then true
    else inter (inPl a.frm) (outPl a.to) (inPl b.frm) (outPl b.to)
  else false
theorem conf_no {a b : Pth} (h : (isP a && isP b && !(decide (a.kind = 2) && decide (b.kind = 2))) = false) : conf a b = false := by unfold conf; rw [h]; rfl
/-- the index of the first path with this Id. -/
def findK (id : Int) : List Pth → Option Nat
  | [] => none
  | p :: ps => if p.id = id then some 0 else (findK id ps).map (· + 1)
/-- what FindPath answers. -/
def findI (id : Int) (ps : List Pth) : Int := match findK id ps with | none => -1 | some k => k
theorem findK_some {id : Int} : ∀ {ps : List Pth} {k : Nat} {p : Pth}, (∀ j q, j < k → ps[j]? = some q → q.id ≠ id) → ps[k]? = some p → p.id = id → findK id ps = some k
  | [], k, p, _, h, _ => by simp at h
  | x :: ps, 0, p, _, h, hp => by
    simp at h
    subst h
    simp [findK, hp]
  | x :: ps, k + 1, p, hn, h, hp => by
    have h0 := hn 0 x (by omega) (by simp)
    have ih := findK_some (ps := ps) (k := k) (p := p) (fun j q hj hq => hn (j + 1) q (by omega) (by simpa using hq)) (by simpa using h) hp
    simp [findK, h0, ih]
theorem findK_none {id : Int} : ∀ {ps : List Pth}, (∀ (j : Nat) q, ps[j]? = some q → q.id ≠ id) → findK id ps = none
  | [], _ => rfl
  | x :: ps, hn => by
    have h0 := hn 0 x (by simp)
    have ih := findK_none (ps := ps) (fun j q hq => hn (j + 1) q (by simpa using hq))
    simp [findK, h0, ih]
theorem findK_at {id : Int} : ∀ {ps : List Pth} {k : Nat}, findK id ps = some k → ∃ p, ps[k]? = some p ∧ p.id = id ∧ ∀ (j : Nat) q, j < k → ps[j]? = some q → q.id ≠ id
  | [], k, h => by simp [findK] at h
  | x :: ps, k, h => by
    unfold findK at h
    split at h
    · rename_i hx
      simp at h
      subst h
      exact ⟨x, by simp, hx, fun j q hj => absurd hj (by omega)⟩
    · rename_i hx
      cases e : findK id ps with
      | none => rw [e] at h; simp at h
      | some m =>
        rw [e] at h
        simp at h
        subst h
        obtain ⟨p, h1, h2, h3⟩ := findK_at e
        refine ⟨p, by simpa using h1, h2, fun j q hj hq => ?_⟩
        match j, hj, hq with
        | 0, _, hq => simp at hq; subst hq; exact hx
        | j + 1, hj, hq => exact h3 j q (by omega) (by simpa using hq)
/-- the k-th path is valid, and its Id is beyond the one before. -/
def goodAt (ps : List Pth) (k : Nat) : Bool := match ps[k]? with
  | none => false
  | some p => isP p && (match k with | 0 => true | m + 1 => match ps[m]? with | none => false | some q => decide (q.id < p.id))
/-- what ArePaths answers. -/
def arePs (ps : List Pth) : Bool := (List.range ps.length).all (goodAt ps) && decide (ps.length ≤ 12)
theorem arePs_no {ps : List Pth} {k : Nat} (hk : k < ps.length) (h : goodAt ps k = false) : arePs ps = false := by
  unfold arePs
  have : (List.range ps.length).all (goodAt ps) = false := by
    rw [Bool.eq_false_iff]
    intro ha
    have := List.all_eq_true.1 ha k (List.mem_range.2 hk)
    rw [h] at this
    cases this
  rw [this]
  rfl
theorem arePs_end {ps : List Pth} (h : ∀ k, k < ps.length → goodAt ps k = true) : arePs ps = decide (ps.length ≤ 12) := by
  unfold arePs
  have : (List.range ps.length).all (goodAt ps) = true := List.all_eq_true.2 fun k hk => h k (List.mem_range.1 hk)
  rw [this]
  simp
end Go.Proofs.Ytmcoeafkbpeelaa
