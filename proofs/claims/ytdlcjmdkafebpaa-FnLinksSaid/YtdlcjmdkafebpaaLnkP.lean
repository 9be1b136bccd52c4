/- Chapter 23: links as Lean data. No program. -/
import Derived.Test.YtdlcjmdkafebpaaLnk
import Derived.Test.YtdlcjmdkafebpaaInts
namespace Go.Proofs.Ytdlcjmdkafebpaa
open Go.RowKit

/-- what IsLink answers. -/
def isLnk (k : Lnk) : Bool := inB k.peer 1 8 && inB k.seq 0 1000000 && inB k.heard 0 1000000 && inB k.offset 0 200
/-- what HearLink answers. -/
def hearL (k : Lnk) (s n o : Int) : Lnk × Bool := if isLnk k && isLnk ⟨k.peer, s, n, o⟩ && decide (k.seq < s) && decide (k.heard ≤ n) then (⟨k.peer, s, n, o⟩, true) else (k, false)
/-- what LinkState answers. -/
def lkS (k : Lnk) (now : Int) : Int := if isLnk k && inB now k.heard 1000000 then (if now - k.heard ≤ 30 then 0 else if now - k.heard ≤ 300 then 1 else 2) else 2
/-- what HearAll answers. -/
def hearAll (k : Lnk) (zs : List Int) (n o : Int) : Lnk := zs.foldl (fun k s => (hearL k s n o).1) k
/-- what InStep answers. -/
def inStepB (zs : List Lnk) (now : Int) : Bool := zs.all fun k => decide (lkS k now = 0)
/-- what StateName answers. -/
def stateT (n : Int) : ByteArray := if n = 0 then ⟨#[115, 116, 101, 112]⟩ else if n = 1 then ⟨#[102, 114, 101, 101]⟩ else if n = 2 then ⟨#[97, 108, 111, 110, 101]⟩ else ⟨#[]⟩
/-- what ModeName answers. -/
def modeT (n : Int) : ByteArray := if n = 0 then ⟨#[102, 117, 108, 108]⟩ else if n = 1 then ⟨#[98, 108, 105, 110, 107]⟩ else if n = 2 then ⟨#[100, 97, 114, 107]⟩ else ⟨#[]⟩
theorem isLnk_facts {k : Lnk} (h : isLnk k = true) : (1 ≤ k.peer ∧ k.peer ≤ 8) ∧ (0 ≤ k.seq ∧ k.seq ≤ 1000000) ∧ (0 ≤ k.heard ∧ k.heard ≤ 1000000) ∧ (0 ≤ k.offset ∧ k.offset ≤ 200) := by
  simp only [isLnk, Bool.and_eq_true] at h
  obtain ⟨⟨⟨h1, h2⟩, h3⟩, h4⟩ := h
  exact ⟨inB_t h1, inB_t h2, inB_t h3, inB_t h4⟩
theorem hear_yes {k : Lnk} {s n o : Int} (h1 : isLnk k = true) (h2 : isLnk ⟨k.peer, s, n, o⟩ = true) (h3 : k.seq < s) (h4 : k.heard ≤ n) : hearL k s n o = (⟨k.peer, s, n, o⟩, true) := by
  unfold hearL; rw [h1, h2, decide_eq_true h3, decide_eq_true h4]; rfl
theorem hear_no1 {k : Lnk} {s n o : Int} (h1 : isLnk k = false) : hearL k s n o = (k, false) := by
  unfold hearL; rw [h1]; rfl
theorem hear_no2 {k : Lnk} {s n o : Int} (h2 : isLnk ⟨k.peer, s, n, o⟩ = false) : hearL k s n o = (k, false) := by
  unfold hearL; rw [h2, Bool.and_false]; rfl
theorem hear_no3 {k : Lnk} {s n o : Int} (h3 : ¬ k.seq < s) : hearL k s n o = (k, false) := by
  unfold hearL; rw [decide_eq_false h3, Bool.and_false]; rfl
theorem hear_no4 {k : Lnk} {s n o : Int} (h3 : ¬ k.heard ≤ n) : hearL k s n o = (k, false) := by
  unfold hearL; rw [decide_eq_false h3, Bool.and_false]; rfl
/-- a message that is taken changes the link. -/
theorem hear_ne (k : Lnk) (s n o : Int) : (hearL k s n o).2 = decide ((hearL k s n o).1 ≠ k) := by
  unfold hearL
  split
  · rename_i h
    simp only [Bool.and_eq_true, decide_eq_true_eq] at h
    have : (⟨k.peer, s, n, o⟩ : Lnk) ≠ k := fun e => by
      have := congrArg Lnk.seq e
      simp only at this
      omega
    simp [this]
  · simp
theorem hearL_wf {k : Lnk} {s n o : Int} (hk : k.wf) (hs : (Lit.int .i64 s).wf = true) (hn : (Lit.int .i64 n).wf = true) (ho : (Lit.int .i64 o).wf = true) : (hearL k s n o).1.wf := by
  unfold hearL
  split
  · exact ⟨hk.1, hs, hn, ho⟩
  · exact hk
end Go.Proofs.Ytdlcjmdkafebpaa
