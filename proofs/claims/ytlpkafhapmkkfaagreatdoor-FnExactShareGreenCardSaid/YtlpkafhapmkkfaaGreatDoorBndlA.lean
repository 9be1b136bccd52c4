/- Texts of one chain, put together: Kit Law LawLaid LawVars Own Row Ints Pth Help Path Mem Pths LawPth. -/
import Derived.WalkKit
import Derived.IntWalk
import Derived.Laws.BytesString
import Derived.Lib.Hide
import Derived.RegionTactic
import Derived.BigQuiet
import Derived.Deep.QuietTactic
import Derived.Test.YtlpkafhapmkkfaaGreatDoorRows
import Derived.ProofKit
import Derived.OpenShut
import Derived.Carry
import Derived.Lay
import Derived.MakeChecks
import Derived.LaidSub
import Derived.LaidHandle
import Derived.Stop.Joined
import Derived.LaidLaws
import Derived.OpenVars
import Derived.RowKitTokens
import Derived.Maps.AppendAt
import Derived.Laws.AppendOwnNone
import Derived.Laws.OwnMore
import Derived.OwnWalk
import Derived.Deep.AppendLies
import Derived.Deep.RegionHeld3
import Derived.Deep.DrawnRows
import Derived.Lib.SmallJoins
import Derived.Deep.Slices
import Derived.Deep.Fields
import Derived.ChangeSame
set_option linter.unusedSimpArgs false
/- Lemmas of this repo's own on the model's operations, for any program. -/
namespace Go.Proofs.YtlpkafhapmkkfaaGreatDoor
open Go.RowKit

theorem i64_of_wf {n : Int} (h : (Lit.int .i64 n).wf = true) : -9223372036854775808 ≤ n ∧ n ≤ 9223372036854775807 := by
  have h' : (decide (IntKind.i64.min ≤ n) && decide (n ≤ IntKind.i64.max)) = true := h
  simp only [Bool.and_eq_true, decide_eq_true_eq] at h'
  exact h'
theorem belowN {B : Nat} {a w : World} (h : Below B a w) (n : Nat) : Below B a (w.drewN n) := ⟨h.os, h.tape, h.output, h.size, h.block⟩
theorem ret_i {k : IntKind} {a b : Int} (h : a = b) : Ending.returned (.int k a) = .returned (.int k b) := by rw [h]
theorem ret_ii {k l : IntKind} {a b c d : Int} (h : a = b) (h2 : c = d) : Ending.returned (.tuple #[.int k a, .int l c]) = .returned (.tuple #[.int k b, .int l d]) := by rw [h, h2]
theorem ret_eq {a b : Value} (h : a = b) : Ending.returned a = .returned b := by rw [h]

/-- A slice value that holds these integers, in a block below B. -/
def IntsAt (k : IntKind) (w : World) (B : Nat) (A : Option Addr) (n : Nat) (zs : List Int) : Prop :=
  zs.length = n ∧ (0 < n → ∃ ad, A = some ad ∧ ad.block < B ∧ ∀ j, j < n → w.cell? (ad.add j) = some (.int k (zs.getD j 0)))
def Bytes (w : World) (B : Nat) (A : Option Addr) (n : Nat) (zs : List Int) : Prop := IntsAt .u8 w B A n zs ∧ ∀ z ∈ zs, 0 ≤ z ∧ z ≤ 255

theorem add_block (a : Addr) (n : Nat) : (a.add n).block = a.block := by unfold Addr.add; split <;> rfl
theorem IntsAt.keep {k : IntKind} {w w' : World} {B : Nat} {A : Option Addr} {n : Nat} {zs : List Int} (h : IntsAt k w B A n zs) (hk : ∀ p : Addr, p.block < B → w'.cell? p = w.cell? p) : IntsAt k w' B A n zs :=
  ⟨h.1, fun hn => by
    obtain ⟨ad, e, hb, hc⟩ := h.2 hn
    exact ⟨ad, e, hb, fun j hj => (hk _ (by rw [add_block]; exact hb)).trans (hc j hj)⟩⟩
theorem Bytes.keep {w w' : World} {B : Nat} {A : Option Addr} {n : Nat} {zs : List Int} (h : Bytes w B A n zs) (hk : ∀ p : Addr, p.block < B → w'.cell? p = w.cell? p) : Bytes w' B A n zs := ⟨h.1.keep hk, h.2⟩
theorem Bytes.below {w w' : World} {B : Nat} {A : Option Addr} {n : Nat} {zs : List Int} (h : Bytes w B A n zs) (hb : Below B w w') : Bytes w' B A n zs := h.keep fun _ hp => hb.cell hp

/-- 'string([]byte{c})' of a row of one byte that has just been made. -/
theorem run_string_of_new1 {P : Program} {src dst e : TypeId} (hs : P.underlying src = some (.slice e)) (he : P.underlying e = some (.int .u8)) (hd : P.underlying dst = some .string) (T : TypeId) (c : Int) (w : World) :
    (convert src dst (.slice (some ⟨w.heap.size, 0, none⟩) 1 1)).run P (w.alloc (.cells #[.int .u8 c] T)) = .ok (.string ⟨[UInt8.ofNat c.toNat].toArray⟩) (w.alloc (.cells #[.int .u8 c] T)) := by
  rw [run_convert_bytes_string _ src dst e _ _ _ hs he hd]
  rw [run_bytesToString _ _ 1 1 [c] ?_]
  · rfl
  · exact run_loadCells_list _ _ [Value.int .u8 c] (fun j v hv => by
      match j with
      | 0 => simp at hv; subst hv; go_simp
      | j + 1 => simp at hv)
end Go.Proofs.YtlpkafhapmkkfaaGreatDoor

/- One step for every law of a seat: out of a walk that ends in 'true' and leaves all that was there as it was, the lifted statement of its row. -/
namespace Go.Proofs.YtlpkafhapmkkfaaGreatDoor
open Go.ChangeShapes Go.WideShapes Go.ChangeAt Go.RowKit

theorem knobless : ownKnob Tryz.prog.godebug = none := by kernel_rfl
theorem laidOutAll : laidOutB Tryz.prog = true := by kernel_rfl

section
variable {H : Type} {enc : TypeId × Value → H} {P : Program}

theorem trodAll_stays (hl : laidOutB P = true) {W W' : World} (hb : Below W.heap.size W W') :
    ∀ (ts : List TypeId) (vs : List Value) (ds : List (DataW H)) (ps : List MemPlace), (ts.all fun t => P.readableRec t && decide (t < P.types.size)) = true →
      DataW.TrodAll enc P W 0 (fun _ => true) true ts vs ds ps → (∀ x ∈ ps, x.block < W.heap.size) → DataW.TrodAll enc P W' 0 (fun b => decide (b < W.heap.size)) true ts vs ds ps
  | [], [], [], _, _, h, _ => h
  | [], _ :: _, _, _, _, h, _ => by simp [DataW.TrodAll] at h
  | [], [], _ :: _, _, _, h, _ => by simp [DataW.TrodAll] at h
  | _ :: _, [], _, _, _, h, _ => by simp [DataW.TrodAll] at h
  | _ :: _, _ :: _, [], _, _, h, _ => by simp [DataW.TrodAll] at h
  | t :: ts, v :: vs, d :: ds, ps, hr, h, hlt => by
    obtain ⟨p, q, h1, h2, rfl⟩ := h
    simp only [List.all_cons, Bool.and_eq_true, decide_eq_true_eq] at hr
    exact ⟨p, q, Below.trod hl hr.1.1 hr.1.2 h1 hb (fun x hx => hlt x (List.mem_append_left _ hx)),
      trodAll_stays hl hb ts vs ds q (by simpa using hr.2) h2 (fun x hx => hlt x (List.mem_append_right _ hx)), rfl⟩

theorem trodAll_length {W : World} {base : Nat} {sp : Nat → Bool} {hd : Bool} :
    ∀ (ts : List TypeId) (vs : List Value) (ds : List (DataW H)) (ps : List MemPlace), DataW.TrodAll enc P W base sp hd ts vs ds ps → ds.length = ts.length
  | [], [], [], _, _ => rfl
  | [], _ :: _, _, _, h => by simp [DataW.TrodAll] at h
  | [], [], _ :: _, _, h => by simp [DataW.TrodAll] at h
  | _ :: _, [], _, _, h => by simp [DataW.TrodAll] at h
  | _ :: _, _ :: _, [], _, h => by simp [DataW.TrodAll] at h
  | _ :: ts, _ :: vs, _ :: ds, ps, h => by
    obtain ⟨_, q, _, h2, _⟩ := h
    simp [trodAll_length ts vs ds q h2]

/-- A slice of integers that came in. -/
theorem arg_ints {t e : TypeId} {k : IntKind} {W : World} {base : Nat} {v : Value} {d : DataW H} {ps : List MemPlace} (ht : P.underlying t = some (.slice e)) (he : P.underlying e = some (.int k)) (hc : P.cellsOf e = 1)
    (hval : Value.okWide P W .any base t v) (hd : DataW.Trod enc P W 0 (fun _ => true) true t v d ps) (hlt : ∀ x ∈ ps, x.block < W.heap.size) :
    ∃ (A : Option Addr) (n c : Nat) (zs : List Int), v = .slice A n c ∧ (IntsAt k W W.heap.size A n zs ∧ (∀ z ∈ zs, (Lit.int k z).wf = true) ∧ n ≤ c ∧ c ≤ maxLen) := by
  obtain ⟨a, len, cap, rfl⟩ := okWide_slice ht hval
  obtain ⟨fuel, hf⟩ := hd
  rcases open_ints ht he hc hf with ⟨h1, _⟩ | ⟨a', len', cap', zs, h1, _, hl, hm, hzl, hx, hcell, hwf⟩
  · have h1' : [Value.slice a len cap] = [Value.slice none 0 0] := h1
    simp only [List.cons.injEq, and_true] at h1'
    exact ⟨none, 0, 0, [], h1', ⟨rfl, fun h => absurd h (by omega)⟩, by simp, Nat.le_refl _, Nat.zero_le _⟩
  · have h1' : [Value.slice a len cap] = [Value.slice (some a') len' cap'] := h1
    simp only [List.cons.injEq, and_true] at h1'
    rw [if_pos rfl] at hzl
    refine ⟨some a', len', cap', zs.take len', h1', ⟨by simp; omega, fun hn => ⟨a', rfl, ?_, fun j hj => ?_⟩⟩, fun z hz => hwf z (List.mem_of_mem_take hz), hl, hm⟩
    · have hmem : MemPlace.cell a'.block (a'.off + 0) ∈ ps := by
        have e := congrArg Prod.snd hx
        simp only at e
        rw [e]
        exact List.mem_map.2 ⟨0, List.mem_range.2 (by omega), rfl⟩
      exact hlt _ hmem
    · rw [hcell j (by omega)]
      simp [List.getD_eq_getElem?_getD, hj]
theorem u8_of_wf {n : Int} (h : (Lit.int .u8 n).wf = true) : 0 ≤ n ∧ n ≤ 255 := by
  have h' : (decide (IntKind.u8.min ≤ n) && decide (n ≤ IntKind.u8.max)) = true := h
  simp only [Bool.and_eq_true, decide_eq_true_eq] at h'
  exact h'

/-- What the row asks of a law: its answer is true, its arguments read as they did. -/
theorem post_law {f : Func} {s : ChangeSpec} {tb : TypeId} {W W' : World} {args : Array Value} {ds gs : List (DataW H)} {before : List MemPlace}
    (hv : s.vars = []) (hf : f.resultTypes = #[tb]) (ub : P.underlying tb = some .bool) (hl : laidOutB P = true)
    (hr : (f.params.toList.all fun t => P.readableRec t && decide (t < P.types.size)) = true)
    (hW : DataW.Whole enc P f.params.toList s.vars false W args.toList ds gs before)
    (hs : s.fn H (ds ++ gs) = { results := [.lit (.bool true)], args := ds }) (hb : Below W.heap.size W W') :
    s.post enc P f false true false false W args (.bool true) W' := by
  have hW0 := hW
  obtain ⟨p, q, hA, hV, rfl, hz, hn⟩ := hW
  rw [hv] at hV
  have hgs : gs = [] ∧ q = [] := by
    cases gs with
    | nil => exact ⟨rfl, hV⟩
    | cons g r => exact absurd hV (by intro h; cases h)
  obtain ⟨rfl, rfl⟩ := hgs
  have hlt : ∀ x ∈ p ++ [], x.block < W.heap.size := fun x hx => hW0.lt x hx
  refine ⟨ds, [], _, [], p, [], hW0, ?_, ?_, ?_, hb.frame _, fun h => by cases h⟩
  · rw [hs, hf]
    exact trodAll_mk1 (shut_bool ub true)
  · rw [hs]
    exact trodAll_stays hl hb _ _ _ _ hr hA (fun x hx => hlt x (by simpa using hx))
  · rw [hs, hv]
    rfl
end

/-- The law's row, lifted, out of its walk. -/
theorem law_lifted {H : Type} {enc : TypeId × Value → H} {C : Checked} {os : Os} {k : FuncId} {fn : Func} {s : ChangeSpec} {tb : TypeId}
    (own : ownKnob C.prog.godebug = none) (started : os.Started) (noInit : C.prog.inits.idxOf? k = none) (hfn : C.prog.funcs[k]? = some fn)
    (witness : ∃ (w : World) (tape : Tape) (i : Input), w.os = os ∧ (w.forCall tape i).Shaped C.prog ∧ i.vars = [] ∧ Input.okWide C.prog (w.forCall tape i) .any w.heap.size k i ∧
      s.pre6 enc C.prog fn [] false (w.forCall tape i).memory i.args ∧ Assume.holds {} C.prog (lone (Frame.enter C.prog k i.args .normal) [] (w.forCall tape i)))
    (hv : s.vars = []) (hf : fn.resultTypes = #[tb]) (ub : C.prog.underlying tb = some .bool) (hl : laidOutB C.prog = true)
    (hr : (fn.params.toList.all fun t => C.prog.readableRec t && decide (t < C.prog.types.size)) = true)
    (hs : ∀ ds : List (DataW H), ds.length = fn.params.size → s.fn H ds = { results := [.lit (.bool true)], args := ds })
    (walk : ∀ (W : World) (base : Nat) (args : Array Value) (ds : List (DataW H)) (ps : List MemPlace),
      (∀ (j : Nat) t v, fn.params[j]? = some t → args[j]? = some v → Value.okWide C.prog W .any base t v) →
      DataW.TrodAll enc C.prog W 0 (fun _ => true) true fn.params.toList args.toList ds ps → (∀ x ∈ ps, x.block < W.heap.size) → W.noneFrozen ps →
      Calls C.prog k args W fun e W' => e = .returned (.bool true) ∧ Below W.heap.size W W') :
    ReturnsInHanded {} C os k .any (s.pre6 enc C.prog fn [] false) (s.post enc C.prog fn false true false false) := by
  refine returnsInHanded_of_change (C := C) own started noInit hfn witness ?_
  intro W base args ds gs before hval hW _ _
  have hW0 := hW
  obtain ⟨p, q, hA, hV, rfl, hz, _⟩ := hW
  have hgs : gs = [] ∧ q = [] := by
    rw [hv] at hV
    cases gs with
    | nil => exact ⟨rfl, hV⟩
    | cons g r => exact absurd hV (by intro h; cases h)
  obtain ⟨rfl, rfl⟩ := hgs
  have hlt : ∀ x ∈ p, x.block < W.heap.size := fun x hx => hW0.lt x (by simpa using hx)
  refine (walk W base args ds p hval hA hlt (by simpa using hz)).mono fun e W' ⟨he, hb⟩ => ?_
  subst he
  exact ⟨_, rfl, post_law hv hf ub hl hr hW0 (by rw [List.append_nil]; exact hs ds (by rw [trodAll_length _ _ _ _ hA]; simp)) hb⟩

end Go.Proofs.YtlpkafhapmkkfaaGreatDoor

/- The same step for a law whose row lists package-level variables: the walk may use what they read as. -/
namespace Go.Proofs.YtlpkafhapmkkfaaGreatDoor
open Go.ChangeShapes Go.WideShapes Go.ChangeAt Go.RowKit

/-- The law's row, lifted, out of its walk; 'laid' is what the row's variables read as. -/
theorem law_lifted_laid {H : Type} {enc : TypeId × Value → H} {C : Checked} {os : Os} {k : FuncId} {fn : Func} {s : ChangeSpec} {tb : TypeId} {laid : List (String × DataW Unit)}
    (own : ownKnob C.prog.godebug = none) (started : os.Started) (noInit : C.prog.inits.idxOf? k = none) (hfn : C.prog.funcs[k]? = some fn)
    (witness : ∃ (w : World) (tape : Tape) (i : Input), w.os = os ∧ (w.forCall tape i).Shaped C.prog ∧ i.vars = [] ∧ Input.okWide C.prog (w.forCall tape i) .any w.heap.size k i ∧
      ((s.pre enc C.prog fn [] false (w.forCall tape i).memory i.args ∧ laidMetH C.prog laid (w.forCall tape i).memory) ∧ sizedMet enc C.prog fn (OpenSpec.ofChange s) false (w.forCall tape i).memory i.args) ∧
      Assume.holds {} C.prog (lone (Frame.enter C.prog k i.args .normal) [] (w.forCall tape i)))
    (hv : s.vars = []) (hf : fn.resultTypes = #[tb]) (ub : C.prog.underlying tb = some .bool) (hl : laidOutB C.prog = true)
    (hr : (fn.params.toList.all fun t => C.prog.readableRec t && decide (t < C.prog.types.size)) = true)
    (hs : ∀ ds : List (DataW H), ds.length = fn.params.size → s.fn H ds = { results := [.lit (.bool true)], args := ds })
    (walk : ∀ (W : World) (base : Nat) (args : Array Value) (ds : List (DataW H)) (ps : List MemPlace),
      (∀ (j : Nat) t v, fn.params[j]? = some t → args[j]? = some v → Value.okWide C.prog W .any base t v) →
      DataW.TrodAll enc C.prog W 0 (fun _ => true) true fn.params.toList args.toList ds ps → (∀ x ∈ ps, x.block < W.heap.size) → W.noneFrozen ps → laidMetH C.prog laid W →
      Calls C.prog k args W fun e W' => e = .returned (.bool true) ∧ Below W.heap.size W W') :
    ReturnsInHanded {} C os k .any (fun w args => (s.pre enc C.prog fn [] false w args ∧ laidMetH C.prog laid w) ∧ sizedMet enc C.prog fn (OpenSpec.ofChange s) false w args)
      (s.post enc C.prog fn false true false false) := by
  refine returnsInHanded_of_change_and (C := C) (X := fun w _ => laidMetH C.prog laid w) (fun _ _ _ hh h => h.of_heap hh) own started noInit hfn witness ?_
  intro W base args ds gs before hval hW _ _ hL _
  have hW0 := hW
  obtain ⟨p, q, hA, hV, rfl, hz, _⟩ := hW
  have hgs : gs = [] ∧ q = [] := by
    rw [hv] at hV
    cases gs with
    | nil => exact ⟨rfl, hV⟩
    | cons g r => exact absurd hV (by intro h; cases h)
  obtain ⟨rfl, rfl⟩ := hgs
  have hlt : ∀ x ∈ p, x.block < W.heap.size := fun x hx => hW0.lt x (by simpa using hx)
  refine (walk W base args ds p hval hA hlt (by simpa using hz) hL).mono fun e W' ⟨he, hb⟩ => ?_
  subst he
  exact ⟨_, rfl, post_law hv hf ub hl hr hW0 (by rw [List.append_nil]; exact hs ds (by rw [trodAll_length _ _ _ _ hA]; simp)) hb⟩

/-- A world that holds the listed variables: for the witness. -/
theorem laid_witness {H : Type} {enc : TypeId × Value → H} {C : Checked} {os : Os} {f : FuncId} {fn : Func} {s : ChangeSpec} {laid : List (String × DataW Unit)} (args : Array Value) (fuel : Nat)
    (hn : (laid.all fun x => x.2.handleName?.isNone) = true)
    (hf : (World.holding C.prog os ⟨#[], #[], []⟩).layFits C.prog laid [] = true)
    (hi : (World.holding C.prog os ⟨#[], #[], []⟩).layIfaces C.prog laid (World.laidAll C.prog os laid) = true)
    (hv : ((World.laidAll C.prog os laid).forCall (fun _ _ => 0) ⟨#[], args, []⟩).variablesB C.prog = true)
    (hr : (((World.laidAll C.prog os laid).forCall (fun _ _ => 0) ⟨#[], args, []⟩).heap.toList.drop C.prog.globals.size).take ((begin C.prog (fun _ _ => 0) default).world.heap.size - C.prog.globals.size) =
      (begin C.prog (fun _ _ => 0) default).world.heap.toList.drop C.prog.globals.size)
    (hok : Input.okWideB C.prog ((World.laidAll C.prog os laid).forCall (fun _ _ => 0) ⟨#[], args, []⟩) f ⟨#[], args, []⟩ = true)
    (hpre : s.preB enc C.prog fn [] false ((World.laidAll C.prog os laid).forCall (fun _ _ => 0) ⟨#[], args, []⟩).memory args fuel = true)
    (hsz : s.sizedB enc C.prog fn false ((World.laidAll C.prog os laid).forCall (fun _ _ => 0) ⟨#[], args, []⟩).memory args fuel = true) :
    ∃ (w : World) (tape : Tape) (i : Input), w.os = os ∧ (w.forCall tape i).Shaped C.prog ∧ i.vars = [] ∧ Input.okWide C.prog (w.forCall tape i) .any w.heap.size f i ∧
      ((s.pre enc C.prog fn [] false (w.forCall tape i).memory i.args ∧ laidMetH C.prog laid (w.forCall tape i).memory) ∧ sizedMet enc C.prog fn (OpenSpec.ofChange s) false (w.forCall tape i).memory i.args) ∧
      Assume.holds {} C.prog (lone (Frame.enter C.prog f i.args .normal) [] (w.forCall tape i)) :=
  ChangeSpec.witness_at (X := fun w _ => laidMetH C.prog laid w) false (World.laidAll C.prog os laid) args fuel (World.laidAll_os _ _ _) hv hr hok hpre hsz
    ((MakeChecks.laidMetH_plain _ _ _ hn).symm ▸ laidMet_laidAll args hf hi)
end Go.Proofs.YtlpkafhapmkkfaaGreatDoor

/- The same step for a law whose row names package-level variables of the program's own: they read behind the call as before. -/
namespace Go.Proofs.YtlpkafhapmkkfaaGreatDoor
open Go.ChangeShapes Go.WideShapes Go.ChangeAt Go.RowKit Go.WideElems

/-- A variable that can be read, or is of an interface type. -/
def varTold (P : Program) (n : String) : Bool :=
  match (P.globalNamed n).bind (P.globals[·]?) with
  | some gl => (P.readableRec gl.type && decide (gl.type < P.types.size)) || (match P.underlying gl.type with | some (.interface _) => true | _ => false)
  | none => false

theorem trod_iface {H : Type} {enc : TypeId × Value → H} {P : Program} {W W' : World} {t : TypeId} {ms : Array (String × TypeId)} (ht : P.underlying t = some (.interface ms)) {fuel : Nat} {cs : List Value} {y : DataW H × List MemPlace}
    (sp sp' : Nat → Bool) (h : DataW.trod enc P W 0 sp true fuel t cs = some y) : DataW.trod enc P W' 0 sp' true fuel t cs = some y := by
  cases fuel with
  | zero => simp [DataW.trod] at h
  | succ m =>
    simp only [DataW.trod, ht] at h ⊢
    split at h <;> simp_all

theorem trodVars_stays {H : Type} {enc : TypeId × Value → H} {P : Program} (hl : laidOutB P = true) {W W' : World} (hb : Below W.heap.size W W') :
    ∀ {ns : List String} {gs : List (DataW H)} {ps : List MemPlace}, ns.all (varTold P) = true → DataW.TrodVars enc P W (fun _ => true) ns gs ps → DataW.TrodVars enc P W' (fun b => decide (b < W.heap.size)) ns gs ps
  | [], [], _, _, h => h
  | [], _ :: _, _, _, h => h.elim
  | _ :: _, [], _, _, h => h.elim
  | n :: ns, d :: ds, ps, hv, h => by
    have hlt := h.lt
    obtain ⟨g, t, cs, fuel, p, q, h1, h2, h3, h4, hs, e⟩ := h
    simp only [List.all_cons, Bool.and_eq_true] at hv
    have h3' : W'.var? P n = some cs := by
      unfold World.var? at h3 ⊢
      rw [h1] at h3 ⊢
      simp only [Option.bind_some] at h3 ⊢
      have hg : g < W.heap.size := by
        cases hh : W.heap[g]? with
        | none => rw [hh] at h3; cases h3
        | some o => exact (Array.getElem?_eq_some_iff.1 hh).1
      rw [hb.block g hg]; exact h3
    have hp : ∀ x ∈ p, x.block < W.heap.size := fun x hx => hlt x (by rw [e]; simp [hx])
    refine ⟨g, t, cs, fuel, p, q, h1, h2, h3', ?_, trodVars_stays hl hb hv.2 hs, e⟩
    have ht := hv.1
    unfold varTold at ht
    rw [h1, Option.bind_some] at ht
    cases hg : P.globals[g]? with
    | none => rw [hg] at ht; cases ht
    | some gl =>
      rw [hg] at h2 ht
      obtain rfl : gl.type = t := Option.some.inj h2
      simp only [Bool.or_eq_true, Bool.and_eq_true, decide_eq_true_eq] at ht
      rcases ht with ht | ht
      · exact DataW.trod_stays (kids_book hl ht.1) (book_sized ht.1) (fun h => by cases h) ⟨ht.2, book_self gl.type⟩ h4 (fun x hx => hb.same (hp x hx)) (fun x hx => by simpa using hp x hx)
      · split at ht
        · rename_i ms hu
          exact trod_iface hu _ _ h4
        · cases ht

theorem trodVars_length {H : Type} {enc : TypeId × Value → H} {P : Program} {W : World} {sp : Nat → Bool} : ∀ {ns : List String} {gs : List (DataW H)} {ps : List MemPlace}, DataW.TrodVars enc P W sp ns gs ps → gs.length = ns.length
  | [], [], _, _ => rfl
  | [], _ :: _, _, h => h.elim
  | _ :: _, [], _, h => h.elim
  | _ :: _, _ :: _, _, h => by
    obtain ⟨_, _, _, _, _, _, _, _, _, _, hs, _⟩ := h
    simp [trodVars_length hs]

/-- What the row asks of a law: its answer is true, its arguments and the named variables read as they did. -/
theorem post_law_vars {H : Type} {enc : TypeId × Value → H} {P : Program} {f : Func} {s : ChangeSpec} {tb : TypeId} {W W' : World} {args : Array Value} {ds gs : List (DataW H)} {before : List MemPlace}
    (hv : s.vars.all (varTold P) = true) (hf : f.resultTypes = #[tb]) (ub : P.underlying tb = some .bool) (hl : laidOutB P = true)
    (hr : (f.params.toList.all fun t => P.readableRec t && decide (t < P.types.size)) = true)
    (hW : DataW.Whole enc P f.params.toList s.vars false W args.toList ds gs before)
    (hs : s.fn H (ds ++ gs) = { results := [.lit (.bool true)], args := ds, vars := gs }) (hb : Below W.heap.size W W') :
    s.post enc P f false true false false W args (.bool true) W' := by
  have hW0 := hW
  obtain ⟨p, q, hA, hV, rfl, hz, hn⟩ := hW
  have hlt : ∀ x ∈ p ++ q, x.block < W.heap.size := fun x hx => hW0.lt x hx
  refine ⟨ds, gs, _, [], p, q, hW0, ?_, ?_, ?_, hb.frame _, fun h => by cases h⟩
  · rw [hs, hf]
    exact trodAll_mk1 (shut_bool ub true)
  · rw [hs]
    exact trodAll_stays hl hb _ _ _ _ hr hA (fun x hx => hlt x (List.mem_append_left _ hx))
  · rw [hs]
    exact trodVars_stays hl hb hv hV

/-- The law's row, lifted, out of its walk; 'laid' is what the row's variables read as. -/
theorem law_lifted_vars {H : Type} {enc : TypeId × Value → H} {C : Checked} {os : Os} {k : FuncId} {fn : Func} {s : ChangeSpec} {tb : TypeId} {laid : List (String × DataW Unit)}
    (own : ownKnob C.prog.godebug = none) (started : os.Started) (noInit : C.prog.inits.idxOf? k = none) (hfn : C.prog.funcs[k]? = some fn)
    (witness : ∃ (w : World) (tape : Tape) (i : Input), w.os = os ∧ (w.forCall tape i).Shaped C.prog ∧ i.vars = [] ∧ Input.okWide C.prog (w.forCall tape i) .any w.heap.size k i ∧
      ((s.pre enc C.prog fn [] false (w.forCall tape i).memory i.args ∧ laidMetH C.prog laid (w.forCall tape i).memory) ∧ sizedMet enc C.prog fn (OpenSpec.ofChange s) false (w.forCall tape i).memory i.args) ∧
      Assume.holds {} C.prog (lone (Frame.enter C.prog k i.args .normal) [] (w.forCall tape i)))
    (hv : s.vars.all (varTold C.prog) = true) (hf : fn.resultTypes = #[tb]) (ub : C.prog.underlying tb = some .bool) (hl : laidOutB C.prog = true)
    (hr : (fn.params.toList.all fun t => C.prog.readableRec t && decide (t < C.prog.types.size)) = true)
    (hs : ∀ ds gs : List (DataW H), ds.length = fn.params.size → gs.length = s.vars.length → s.fn H (ds ++ gs) = { results := [.lit (.bool true)], args := ds, vars := gs })
    (walk : ∀ (W : World) (base : Nat) (args : Array Value) (ds : List (DataW H)) (ps : List MemPlace),
      (∀ (j : Nat) t v, fn.params[j]? = some t → args[j]? = some v → Value.okWide C.prog W .any base t v) →
      DataW.TrodAll enc C.prog W 0 (fun _ => true) true fn.params.toList args.toList ds ps → (∀ x ∈ ps, x.block < W.heap.size) → W.noneFrozen ps → laidMetH C.prog laid W →
      Calls C.prog k args W fun e W' => e = .returned (.bool true) ∧ Below W.heap.size W W') :
    ReturnsInHanded {} C os k .any (fun w args => (s.pre enc C.prog fn [] false w args ∧ laidMetH C.prog laid w) ∧ sizedMet enc C.prog fn (OpenSpec.ofChange s) false w args)
      (s.post enc C.prog fn false true false false) := by
  refine returnsInHanded_of_change_and (C := C) (X := fun w _ => laidMetH C.prog laid w) (fun _ _ _ hh h => h.of_heap hh) own started noInit hfn witness ?_
  intro W base args ds gs before hval hW _ _ hL _
  have hW0 := hW
  obtain ⟨p, q, hA, hV, rfl, hz, _⟩ := hW
  have hlt : ∀ x ∈ p, x.block < W.heap.size := fun x hx => hW0.lt x (List.mem_append_left _ hx)
  refine (walk W base args ds p hval hA hlt (fun b off hm => hz b off (List.mem_append_left _ hm)) hL).mono fun e W' ⟨he, hb⟩ => ?_
  subst he
  exact ⟨_, rfl, post_law_vars hv hf ub hl hr hW0 (hs ds gs (by rw [trodAll_length _ _ _ _ hA]; simp) (trodVars_length hV)) hb⟩
end Go.Proofs.YtlpkafhapmkkfaaGreatDoor

/- Slices of numbers that a call has made: what they hold; append, make and stores on them. No program. -/
namespace Go.Proofs.YtlpkafhapmkkfaaGreatDoor
open Go.RowKit

theorem heap_set {w : World} {g : Nat} {cs : Array Value} {t : TypeId} (h : w.heap[g]? = some (.cells cs t (0, 0))) (i : Nat) (u : Value) :
    (w.setCell ⟨g, i, none⟩ u).heap[g]? = some (.cells (cs.setIfInBounds i u) t (0, 0)) := by
  simp [World.setCell, Array.getElem?_modify, h]
/-- Only block g, and what is new, has turned. -/
theorem only_drewN {a w : World} {row : Option Nat} (h : a.grownBy w row) (n : Nat) : a.grownBy (w.drewN n) row := ⟨h.os, h.tape, h.output, h.size, h.block⟩
theorem only_alloc {a w : World} {row : Option Nat} (h : a.grownBy w row) (o : Obj) : a.grownBy (w.alloc o) row :=
  ⟨h.os, h.tape, h.output, Nat.le_trans h.size (by simp), fun k hk hne => (Below.heap_alloc w o k (Nat.lt_of_lt_of_le hk h.size)).trans (h.block k hk hne)⟩
theorem only_trans {a b c : World} {g : Nat} (h : a.grownBy b (some g)) (k : b.grownBy c (some g)) : a.grownBy c (some g) :=
  ⟨k.os.trans h.os, k.tape.trans h.tape, k.output.trans h.output, Nat.le_trans h.size k.size, fun i hi hne => (k.block i (Nat.lt_of_lt_of_le hi h.size) hne).trans (h.block i hi hne)⟩
theorem below_of_only {a w : World} {g B : Nat} (h : a.grownBy w (some g)) (hB : B ≤ g) (hs : B ≤ a.heap.size) : Below B a w :=
  ⟨h.os, h.tape, h.output, h.size, fun k hk => h.block k (by omega) (fun e => by injection e with e; omega)⟩
theorem only_of_below {a w : World} (h : Below a.heap.size a w) (row : Option Nat) : a.grownBy w row := ⟨h.os, h.tape, h.output, h.size, fun i hi _ => h.block i hi⟩
theorem only_setCell {a w : World} {g : Nat} (h : a.grownBy w (some g)) (i : Nat) (u : Value) : a.grownBy (w.setCell ⟨g, i, none⟩ u) (some g) :=
  ⟨h.os, h.tape, h.output, by simpa [World.setCell] using h.size, fun k hk hne => (Below.heap_setCell w _ u k (fun e => hne (by rw [e]))).trans (h.block k hk hne)⟩

/-- v is a slice over a row of the call's own (a block from lo on) that holds these integers; or nil. -/
def Own (k : IntKind) (E : TypeId) (w : World) (lo : Nat) (v : Value) (zs : List Int) : Prop := w.ownsRow lo E 1 v zs.length (zs.map (Value.int k))
theorem own_nil (k : IntKind) (E : TypeId) (w : World) (lo : Nat) : Own k E w lo (.slice none 0 0) [] := World.ownsRow_nil _ _ _ _
theorem Own.shape {k : IntKind} {E : TypeId} {w : World} {lo : Nat} {v : Value} {zs : List Int} (h : Own k E w lo v zs) :
    (v = .slice none 0 0 ∧ zs = []) ∨ ∃ g cap, v = .slice (some ⟨g, 0, none⟩) zs.length cap ∧ lo ≤ g ∧ g < w.heap.size ∧ zs.length ≤ cap ∧ cap ≤ maxLen := by
  rcases h.2 with ⟨h1, h2⟩ | ⟨g, cap, cur, hv, hb, hg, hc, hm, _⟩
  · exact .inl ⟨h1, List.eq_nil_of_length_eq_zero h2⟩
  · exact .inr ⟨g, cap, hv, hb, lt_of_block hg, hc, hm⟩
theorem Own.sliced {k : IntKind} {E : TypeId} {w : World} {lo : Nat} {v : Value} {zs : List Int} (h : Own k E w lo v zs) : ∃ A c, v = .slice A zs.length c := by
  rcases h.shape with ⟨rfl, rfl⟩ | ⟨g, cap, rfl, _⟩
  · exact ⟨_, _, rfl⟩
  · exact ⟨_, _, rfl⟩
theorem Own.len {k : IntKind} {E : TypeId} {w : World} {lo : Nat} {A : Option Addr} {n c : Nat} {zs : List Int} (h : Own k E w lo (.slice A n c) zs) : n = zs.length := by
  obtain ⟨A', c', e⟩ := h.sliced
  injection e
theorem Own.block {k : IntKind} {E : TypeId} {w : World} {lo : Nat} {v : Value} {zs : List Int} (h : Own k E w lo v zs) : ∀ g, v.ownBlock = some g → lo ≤ g ∧ g < w.heap.size := h.lt
theorem Own.mono {k : IntKind} {E : TypeId} {w : World} {lo lo' : Nat} {v : Value} {zs : List Int} (h : Own k E w lo v zs) (hl : lo' ≤ lo) : Own k E w lo' v zs := by
  refine ⟨h.1, ?_⟩
  rcases h.2 with h2 | ⟨g, cap, cur, hv, hb, hg, r⟩
  · exact .inl h2
  · exact .inr ⟨g, cap, cur, hv, by omega, hg, r⟩
theorem Own.grown {k : IntKind} {E : TypeId} {w w' : World} {lo : Nat} {v : Value} {zs : List Int} {row : Option Nat} (h : Own k E w lo v zs) (hg : w.grownBy w' row) (hne : ∀ g, v.ownBlock = some g → row ≠ some g) : Own k E w' lo v zs :=
  World.ownsRow.kept h hg (by
    cases e : v.ownBlock with
    | none => exact .inl rfl
    | some g => exact .inr fun e' => hne g e e'.symm)
theorem Own.under {k : IntKind} {E : TypeId} {w w' : World} {lo B : Nat} {v : Value} {zs : List Int} (h : Own k E w lo v zs) (hb : Below B w w') (hB : ∀ g, v.ownBlock = some g → g < B) : Own k E w' lo v zs := by
  refine ⟨h.1, ?_⟩
  rcases h.2 with h2 | ⟨g, cap, cur, rfl, hl, hg, r⟩
  · exact .inl h2
  · exact .inr ⟨g, cap, cur, rfl, hl, (hb.block g (hB g rfl)).trans hg, r⟩
theorem Own.below {k : IntKind} {E : TypeId} {w w' : World} {lo : Nat} {v : Value} {zs : List Int} (h : Own k E w lo v zs) (hb : Below w.heap.size w w') : Own k E w' lo v zs := h.under hb fun g e => (h.block g e).2
theorem Own.alloc {k : IntKind} {E : TypeId} {w : World} {lo : Nat} {v : Value} {zs : List Int} (h : Own k E w lo v zs) (o : Obj) : Own k E (w.alloc o) lo v zs := World.ownsRow.alloc h o
theorem add_head (g j : Nat) : (⟨g, 0, none⟩ : Addr).add j = ⟨g, j, none⟩ := by unfold Addr.add; split <;> simp_all
theorem Own.cell {k : IntKind} {E : TypeId} {w : World} {lo : Nat} {g n c : Nat} {zs : List Int} (h : Own k E w lo (.slice (some ⟨g, 0, none⟩) n c) zs) (j : Nat) (hj : j < zs.length) : w.cell? ⟨g, j, none⟩ = some (.int k (zs.getD j 0)) := by
  have hn := h.len
  subst hn
  have h' : w.ownsRow lo E 1 (.slice (some ⟨g, 0, none⟩) zs.length c) zs.length (zs.map (Value.int k)) := h
  rw [h'.cellAt j (by omega)]
  simp [List.getD_eq_getElem?_getD, List.getElem?_eq_getElem hj]
theorem Own.free {k : IntKind} {E : TypeId} {w : World} {lo : Nat} {g n c : Nat} {zs : List Int} (h : Own k E w lo (.slice (some ⟨g, 0, none⟩) n c) zs) (j : Nat) : w.frozen? ⟨g, j, none⟩ = false := by
  have hn := h.len
  subst hn
  have h' : w.ownsRow lo E 1 (.slice (some ⟨g, 0, none⟩) zs.length c) zs.length (zs.map (Value.int k)) := h
  exact h'.frozenAt j
theorem Own.ints {k : IntKind} {E : TypeId} {w : World} {lo : Nat} {A : Option Addr} {n c : Nat} {zs : List Int} (h : Own k E w lo (.slice A n c) zs) : IntsAt k w w.heap.size A n zs := by
  have hn := h.len
  refine ⟨hn.symm, fun h0 => ?_⟩
  rcases h.shape with ⟨e, rfl⟩ | ⟨g, cap, e, hb, hlt, _⟩
  · simp at hn; omega
  · injection e with e1 e2 e3
    subst e1
    exact ⟨_, rfl, hlt, fun j hj => by rw [add_head]; exact h.cell j (by omega)⟩
theorem Own.stored {k : IntKind} {E : TypeId} {w : World} {lo : Nat} {g n c : Nat} {zs : List Int} (h : Own k E w lo (.slice (some ⟨g, 0, none⟩) n c) zs) (j : Nat) (x : Int) :
    Own k E (w.setCell ⟨g, j, none⟩ (.int k x)) lo (.slice (some ⟨g, 0, none⟩) n c) (zs.set j x) := by
  have hn := h.len
  subst hn
  have h' : w.ownsRow lo E 1 (.slice (some ⟨g, 0, none⟩) zs.length c) zs.length (zs.map (Value.int k)) := h
  have h2 := (h'.stored j (.int k x)).1
  unfold Own
  rw [List.length_set, List.map_set]
  exact h2
theorem own_lit {k : IntKind} {E : TypeId} (w : World) {lo : Nat} (zs : List Int) (n : Nat) (hb : lo ≤ w.heap.size) (hm : n ≤ maxLen) (hn : zs.length = n) :
    Own k E (w.alloc (.cells (zs.map (Value.int k)).toArray E)) lo (.slice (some ⟨w.heap.size, 0, none⟩) n n) zs := by
  subst hn
  have h := World.ownsRow_lit (base := lo) (e := E) (size := 1) w (zs.map (Value.int k)).toArray zs.length hb hm (by simp)
  unfold Own
  simpa using h
theorem made_ints (k : IntKind) (n : Nat) : (madeCells (Value.int k 0).cells (n * 1)).toList = (List.replicate n 0).map (Value.int k) := by
  simp only [madeCells, Value.cells]
  apply List.ext_getElem?
  intro i
  simp only [Array.toList_map, List.getElem?_map, Nat.mul_one]
  by_cases h : i < n
  · simp [h, Nat.mod_one]
  · simp [h]
theorem getD_set_self (zs : List Int) (j : Nat) (x : Int) (h : j < zs.length) : (zs.set j x).getD j 0 = x := by
  simp [List.getD_eq_getElem?_getD, h]

/-- The second type of an append is looked at for a number alone. -/
theorem run_append_types {P : Program} {t tx e ex : TypeId} (ht : P.underlying t = some (.slice e)) (hx : P.underlying tx = some (.slice ex)) (ty : TypeId) (A : Option Addr) (n c : Nat) (x : Value) (w : World) :
    (Builtin.append_ #[t, tx] ty #[.slice A n c, x]).run P w = (Builtin.append_ #[t, t] ty #[.slice A n c, x]).run P w := by
  simp [Builtin.append_, run_underlying ht, run_underlying hx]
theorem ints_news {k : IntKind} {w : World} {B : Nat} {ad : Addr} {m : Nat} {zs : List Int} (h : IntsAt k w B (some ad) m zs) : ∀ j u, (zs.map (Value.int k))[j]? = some u → w.cell? (ad.add j) = some u := by
  intro j u hu
  obtain ⟨z, hz, rfl⟩ := Option.map_eq_some_iff.1 ((List.getElem?_map).symm.trans hu)
  obtain ⟨hj, hz'⟩ := List.getElem?_eq_some_iff.1 hz
  have hm := h.1
  obtain ⟨ad', e, _, hc⟩ := h.2 (by omega)
  injection e with e
  subst e
  rw [hc j (by omega), List.getD_eq_getElem?_getD, hz]
  rfl
theorem ints_one (k : IntKind) (zs : List Int) : ∀ u ∈ zs.map (Value.int k), u.oneCell' = true := by
  intro u hu
  obtain ⟨z, _, rfl⟩ := List.mem_map.1 hu
  rfl

/-- A guarded operation that is wanted is carried out as one without a guard. -/
theorem wpList_want {P : Program} {w : World} {ops : Array Oper} {rest : List Oper} {o : Oper} {a : Act} {Q : Exit → Act → World → Prop} (hw : Region.wanted o (yielded ops a.tmps) = true)
    (h : wpList P ops Q ({ o with guard := none } :: rest) a w) : wpList P ops Q (o :: rest) a w := by
  unfold wpList at h ⊢
  rw [if_pos hw]
  rw [if_pos (by simp [Region.wanted])] at h
  exact h
/-- 'append(v, x...)', v of the call's own or nil, x a slice of the same numbers, whatever it is. -/
theorem wpList_app {P : Program} {w : World} {ops : Array Oper} {rest : List Oper} {o : Oper} {a : Act} {Q : Exit → Act → World → Prop} (hgd : o.guard = none) (s x : Operand) (t tx : TypeId)
    (ho : o.op = .call { callee := .builtin .append, args := #[s, x], argTypes := #[t, tx] })
    (k : IntKind) (E ex : TypeId) (bytes : Nat) (ht : P.underlying t = some (.slice E)) (htx : P.underlying tx = some (.slice ex)) (hi : (P.info? E).map (fun i => (i.zero, i.size, i.bytes)) = some (some (.int k 0), 1, bytes))
    (lo : Nat) (v : Value) (xs : List Int) (hs : a.eval s = v) (hown : Own k E w lo v xs)
    (A : Option Addr) (m c B : Nat) (zs : List Int) (hx : a.eval x = .slice A m c) (hsrc : IntsAt k w B A m zs) (hnil : A = none → m = 0 ∧ c = 0) (hb : bytes ≤ 8)
    (hbytes : xs.length + m ≤ 4398046511104) (hlo : lo ≤ w.heap.size)
    (h : ∀ v' w', Own k E w' lo v' (xs ++ zs) → w.grownBy w' v.ownBlock → (v'.ownBlock = v.ownBlock ∨ v'.ownBlock = some w.heap.size) → wpList P ops Q rest (a.put o.dst v') w') :
    wpList P ops Q (o :: rest) a w := by
  refine wpList_plain hgd fun K hK => ?_
  obtain ⟨i, hi1, hz, hsz, hby⟩ := info_parts hi
  have hzs := hsrc.1
  obtain ⟨Av, cv, hv⟩ := hown.sliced
  cases A with
  | none =>
    obtain ⟨rfl, rfl⟩ := hnil rfl
    have hz0 : zs = [] := List.eq_nil_of_length_eq_zero hzs
    subst hz0
    have hrun := run_append_owned_none (P := P) (w := w) lo t o.type E i 1 ht hi1 v xs.length _ hown
    have hrun2 := (run_append_types ht htx o.type Av xs.length cv (.slice none 0 0) w).trans (hv ▸ hrun)
    unfold Oper.wp
    simp [execOp, ho, resolve, invoke, builtin, hs, hx, hv, hrun2, Result.andThen]
    exact hK _ _ (hv ▸ h v w (by rw [List.append_nil]; exact hown) (World.grownBy.refl _ _) (.inl rfl))
  | some ad =>
    obtain ⟨v', w', hr, h2, h3, h4, h5⟩ := run_append_own_at (P := P) w lo t o.type E i (.int k 0) 1 bytes ht hi1 hz hsz hby rfl (by omega) v xs.length _ hown ad m c (zs.map (Value.int k)) (by simp [hzs]) (ints_news hsrc) (ints_one k zs)
      (by unfold maxLen; omega) (by have : (xs.length + m) * bytes ≤ (xs.length + m) * 8 := Nat.mul_le_mul_left _ hb; omega) hlo
    have hrun2 := (run_append_types ht htx o.type Av xs.length cv (.slice (some ad) m c) w).trans (hv ▸ hr)
    unfold Oper.wp execOp
    simp only [ho, resolve, invoke, builtin, Sem.run_bind, Sem.run_pure, Result.andThen_ok, List.map_toArray, List.map_cons, List.map_nil, hs, hx, hv, hrun2]
    refine hK _ _ (h v' w' ?_ h3 h5)
    unfold Own
    rw [List.length_append, List.map_append, hzs]
    exact h2
/-- 'append(v, x)', one number: it lies in a block of its own, the newest. -/
theorem wpList_app1 {P : Program} {w : World} {ops : Array Oper} {rest : List Oper} {o : Oper} {a : Act} {Q : Exit → Act → World → Prop} (hgd : o.guard = none) (s x : Operand) (t : TypeId)
    (ho : o.op = .call { callee := .builtin .append, args := #[s, x], argTypes := #[t, t] })
    (k : IntKind) (E : TypeId) (bytes : Nat) (ht : P.underlying t = some (.slice E)) (hi : (P.info? E).map (fun i => (i.zero, i.size, i.bytes)) = some (some (.int k 0), 1, bytes))
    (lo : Nat) (v : Value) (xs : List Int) (hs : a.eval s = v) (hown : Own k E w lo v xs) (hb : bytes ≤ 8) (hbytes : xs.length < 4398046511104)
    (z : Int) (fr : Nat × Nat) (T : TypeId) (H : Nat) (hlo : lo ≤ H) (hx : a.eval x = .slice (some ⟨H, 0, none⟩) 1 1) (hH : (w.alloc (.cells #[.int k z] T fr)).heap.size = H + 1)
    (h : ∀ v' w', Own k E w' lo v' (xs ++ [z]) → (w.alloc (.cells #[.int k z] T fr)).grownBy w' v.ownBlock → (v'.ownBlock = v.ownBlock ∨ v'.ownBlock = some (H + 1)) → wpList P ops Q rest (a.put o.dst v') w') :
    wpList P ops Q (o :: rest) a (w.alloc (.cells #[.int k z] T fr)) := by
  have hH' : w.heap.size = H := by simpa using hH
  subst hH'
  have hc : (w.alloc (.cells #[.int k z] T fr)).cell? ⟨w.heap.size, 0, none⟩ = some (.int k z) := by
    rw [cell_of_row _ _ 0 #[.int k z] T fr (heap_alloc_new w _)]; rfl
  refine wpList_app hgd s x t t ho k E E bytes ht ht hi lo v xs hs (hown.alloc _) (some ⟨w.heap.size, 0, none⟩) 1 1 (w.heap.size + 1) [z] hx ⟨rfl, fun _ => ⟨_, rfl, by simp, fun j hj => ?_⟩⟩ (by simp) hb (by omega) (by simp; omega) (fun v' w' h1 h2 h3 => h v' w' h1 h2 (by simpa using h3))
  obtain rfl : j = 0 := by omega
  rw [add_head]
  exact hc
/-- 'make([]T, n)'. -/
theorem wpList_mk {P : Program} {w : World} {ops : Array Oper} {rest : List Oper} {o : Oper} {a : Act} {Q : Exit → Act → World → Prop}
    (hg : o.guard = none) (l c : Operand) (t : TypeId) (hop : o.op = Op.makeSlice t l c)
    (k : IntKind) (E : TypeId) (bytes : Nat) (ht : P.underlying t = some (.slice E)) (hi : (P.info? E).map (fun i => (i.zero, i.size, i.bytes)) = some (some (.int k 0), 1, bytes)) (hb : bytes ≤ 8)
    (L C : Int) (n : Nat) (hl : a.eval l = .int .i64 L) (hc : a.eval c = .int .i64 C) (hL : L = (n : Int)) (hC : C = (n : Int)) (hn : n ≤ 4398046511104)
    (hK : ∀ w', Own k E w' w.heap.size (.slice (some ⟨w.heap.size, 0, none⟩) n n) (List.replicate n 0) → w.grownBy w' none → wpList P ops Q rest (a.put o.dst (.slice (some ⟨w.heap.size, 0, none⟩) n n)) w') :
    wpList P ops Q (o :: rest) a w := by
  obtain ⟨i, hi1, hz, hsz, hby⟩ := info_parts hi
  refine wpList_make_full w hg l c t hop w.heap.size E i (.int k 0) 1 ht hi1 hz hsz .i64 .i64 L C n hl hc hL hC (by rw [hby]; have : bytes * n ≤ 8 * n := Nat.mul_le_mul_right _ hb; omega) (by unfold maxLen; omega) (Nat.le_refl _) fun w' h1 h2 => hK w' ?_ h2
  unfold Own
  rw [made_ints] at h1
  simpa using h1
/-- 'make([]T, 0, n)'. -/
theorem wpList_mk0 {P : Program} {w : World} {ops : Array Oper} {rest : List Oper} {o : Oper} {a : Act} {Q : Exit → Act → World → Prop}
    (hg : o.guard = none) (l c : Operand) (t : TypeId) (hop : o.op = Op.makeSlice t l c)
    (k : IntKind) (E : TypeId) (bytes : Nat) (ht : P.underlying t = some (.slice E)) (hi : (P.info? E).map (fun i => (i.zero, i.size, i.bytes)) = some (some (.int k 0), 1, bytes)) (hb : bytes ≤ 8)
    (C : Int) (n : Nat) (hl : a.eval l = .int .i64 0) (hc : a.eval c = .int .i64 C) (hC : C = (n : Int)) (hn : n ≤ 4398046511104)
    (hK : ∀ w', Own k E w' w.heap.size (.slice (some ⟨w.heap.size, 0, none⟩) 0 n) [] → w.grownBy w' none → wpList P ops Q rest (a.put o.dst (.slice (some ⟨w.heap.size, 0, none⟩) 0 n)) w') :
    wpList P ops Q (o :: rest) a w := by
  obtain ⟨i, hi1, hz, hsz, hby⟩ := info_parts hi
  exact wpList_make_own w hg l c t hop w.heap.size E i (.int k 0) 1 ht hi1 hz hsz .i64 .i64 C n hl hc hC (by rw [hby]; have : bytes * n ≤ 8 * n := Nat.mul_le_mul_right _ hb; omega) (by unfold maxLen; omega) (Nat.le_refl _) fun w' h1 h2 => hK w' h1 h2
theorem Own.push {k : IntKind} {E : TypeId} {a w0 w w' : World} {B lo : Nat} {v : Value} {zs : List Int} (h : Own k E w0 lo v zs) (hl : B ≤ lo) (hb : Below B a w) (hB : B ≤ w.heap.size) (hg : w.grownBy w' v.ownBlock) : Below B a w' :=
  hb.grown hg hB fun g e => Nat.le_trans hl (h.block g e).1
theorem own_bare (k : IntKind) (E : TypeId) (w : World) : Own k E (w.alloc (.cells #[] E)) w.heap.size (.slice (some ⟨w.heap.size, 0, none⟩) 0 0) [] := own_lit w [] 0 (Nat.le_refl _) (by decide) rfl
theorem eql_slice_nil {P : Program} {t e : TypeId} (ht : P.underlying t = some (.slice e)) (A : Option Addr) (n c : Nat) (w : World) :
    (binOp .eql t (.slice A n c) (.slice none 0 0)).run P w = .ok (.bool A.isNone) w := by
  have h : ∀ d : Nat, (Op.equalIn (d + 1) t (.slice A n c) (.slice none 0 0)).run P w = .ok A.isNone w := fun d => by
    cases A <;> simp [Op.equalIn, run_underlying ht]
  simp only [binOp]
  simp [Op.equal, Op.maxDepth, h 9999]
theorem below_undrew {B : Nat} {w w' : World} (h : Below B w.drew w') : Below B w w' := ⟨h.os, h.tape, h.output, h.size, h.block⟩
theorem below_grown {w w' : World} (h : w.grownBy w' none) : Below w.heap.size w w' := ⟨h.os, h.tape, h.output, h.size, fun i hi => h.block i hi (by simp)⟩
end Go.Proofs.YtlpkafhapmkkfaaGreatDoor

/- Rows of cells, of elements of whatever size: what they hold; append, make and stores on a row of the call's own. No program. -/
namespace Go.Proofs.YtlpkafhapmkkfaaGreatDoor
open Go.RowKit

theorem add_add (a : Addr) (m n : Nat) : (a.add m).add n = a.add (m + n) := by
  unfold Addr.add
  by_cases h : m = 0
  · subst h; simp
  · by_cases h2 : n = 0
    · subst h2; simp
    · simp [h, h2, Nat.add_assoc]
/-- These cells, one behind the other, in a block below B. -/
def CellsAt (w : World) (B : Nat) (A : Option Addr) (m : Nat) (vs : List Value) : Prop :=
  vs.length = m ∧ (0 < m → ∃ ad, A = some ad ∧ ad.block < B ∧ ∀ (j : Nat) v, vs[j]? = some v → w.cell? (ad.add j) = some v)
theorem CellsAt.keep {w w' : World} {B : Nat} {A : Option Addr} {m : Nat} {vs : List Value} (h : CellsAt w B A m vs) (hk : ∀ p : Addr, p.block < B → w'.cell? p = w.cell? p) : CellsAt w' B A m vs :=
  ⟨h.1, fun hn => by
    obtain ⟨ad, e, hb, hc⟩ := h.2 hn
    exact ⟨ad, e, hb, fun j v hj => (hk _ (by rw [add_block]; exact hb)).trans (hc j v hj)⟩⟩
theorem CellsAt.below {w w' : World} {B : Nat} {A : Option Addr} {m : Nat} {vs : List Value} (h : CellsAt w B A m vs) (hb : Below B w w') : CellsAt w' B A m vs := h.keep fun _ hp => hb.cell hp
theorem CellsAt.up {w : World} {B B' : Nat} {A : Option Addr} {m : Nat} {vs : List Value} (h : CellsAt w B A m vs) (hB : B ≤ B') : CellsAt w B' A m vs :=
  ⟨h.1, fun hn => by obtain ⟨ad, e, hb, hc⟩ := h.2 hn; exact ⟨ad, e, by omega, hc⟩⟩

section
variable {E : TypeId} {s : Nat} {w w' w0 : World} {lo lo' n : Nat} {v : Value} {vs : List Value}
theorem ownr_nil (E : TypeId) (s : Nat) (w : World) (lo : Nat) : w.ownsRow lo E s (.slice none 0 0) 0 [] := World.ownsRow_nil _ _ _ _
theorem ownr_shape (h : w.ownsRow lo E s v n vs) :
    (v = .slice none 0 0 ∧ n = 0) ∨ ∃ g cap, v = .slice (some ⟨g, 0, none⟩) n cap ∧ lo ≤ g ∧ g < w.heap.size ∧ n ≤ cap ∧ cap ≤ maxLen := by
  rcases h.2 with h1 | ⟨g, cap, cur, hv, hb, hg, hc, hm, _⟩
  · exact .inl h1
  · exact .inr ⟨g, cap, hv, hb, lt_of_block hg, hc, hm⟩
theorem ownr_sliced (h : w.ownsRow lo E s v n vs) : ∃ A c, v = .slice A n c := by
  rcases ownr_shape h with ⟨rfl, rfl⟩ | ⟨g, cap, rfl, _⟩
  · exact ⟨_, _, rfl⟩
  · exact ⟨_, _, rfl⟩
theorem ownr_len {A : Option Addr} {m c : Nat} (h : w.ownsRow lo E s (.slice A m c) n vs) : m = n := by
  obtain ⟨A', c', e⟩ := ownr_sliced h
  injection e
theorem ownr_block (h : w.ownsRow lo E s v n vs) : ∀ g, v.ownBlock = some g → lo ≤ g ∧ g < w.heap.size := World.ownsRow.lt h
theorem ownr_mono (h : w.ownsRow lo E s v n vs) (hl : lo' ≤ lo) : w.ownsRow lo' E s v n vs := by
  refine ⟨h.1, ?_⟩
  rcases h.2 with h2 | ⟨g, cap, cur, hv, hb, hg, r⟩
  · exact .inl h2
  · exact .inr ⟨g, cap, cur, hv, by omega, hg, r⟩
theorem ownr_grown {row : Option Nat} (h : w.ownsRow lo E s v n vs) (hg : w.grownBy w' row) (hne : ∀ g, v.ownBlock = some g → row ≠ some g) : w'.ownsRow lo E s v n vs :=
  World.ownsRow.kept h hg (by
    cases e : v.ownBlock with
    | none => exact .inl rfl
    | some g => exact .inr fun e' => hne g e e'.symm)
theorem ownr_under {B : Nat} (h : w.ownsRow lo E s v n vs) (hb : Below B w w') (hB : ∀ g, v.ownBlock = some g → g < B) : w'.ownsRow lo E s v n vs := by
  refine ⟨h.1, ?_⟩
  rcases h.2 with h2 | ⟨g, cap, cur, rfl, hl, hg, r⟩
  · exact .inl h2
  · exact .inr ⟨g, cap, cur, rfl, hl, (hb.block g (hB g rfl)).trans hg, r⟩
theorem ownr_below (h : w.ownsRow lo E s v n vs) (hb : Below w.heap.size w w') : w'.ownsRow lo E s v n vs := ownr_under h hb fun g e => (ownr_block h g e).2
theorem ownr_push {B : Nat} {a : World} (h : w0.ownsRow lo E s v n vs) (hl : B ≤ lo) (hb : Below B a w) (hB : B ≤ w.heap.size) (hg : w.grownBy w' v.ownBlock) : Below B a w' :=
  hb.grown hg hB fun g e => Nat.le_trans hl (ownr_block h g e).1
theorem ownr_cells {A : Option Addr} {m c : Nat} (h : w.ownsRow lo E s (.slice A m c) n vs) : CellsAt w w.heap.size A (m * s) vs := by
  have hm := ownr_len h
  subst hm
  refine ⟨h.1, fun h0 => ?_⟩
  rcases ownr_shape h with ⟨e, hn⟩ | ⟨g, cap, e, hb, hlt, _⟩
  · subst hn; simp at h0
  · injection e with e1 e2 e3
    subst e1; subst e3
    refine ⟨_, rfl, hlt, fun j u hj => ?_⟩
    rw [add_head, World.ownsRow.cellAt h j (by have := (List.getElem?_eq_some_iff.1 hj).1; rw [h.1] at this; exact this), hj]
theorem ownr_some {g c : Nat} (h : w.ownsRow lo E s (.slice (some ⟨g, 0, none⟩) n c) n vs) {j : Nat} (hj : j < n * s) : ∃ x, w.cell? ⟨g, j, none⟩ = some x := by
  have h1 := World.ownsRow.cellAt h j hj
  rw [List.getElem?_eq_getElem (by rw [h.1]; exact hj)] at h1
  exact ⟨_, h1⟩
theorem ownr_nilcap {A : Option Addr} {m c : Nat} (h : w.ownsRow lo E s (.slice A m c) n vs) : A = none → m = 0 ∧ c = 0 := by
  rintro rfl
  rcases ownr_shape h with ⟨e, _⟩ | ⟨g, cap, e, _⟩
  · injection e with e1 e2 e3; exact ⟨e2, e3⟩
  · injection e with e1; cases e1
theorem ownr_cap {A : Option Addr} {m c : Nat} (h : w.ownsRow lo E s (.slice A m c) n vs) : m ≤ c ∧ c ≤ maxLen := by
  rcases ownr_shape h with ⟨e, _⟩ | ⟨g, cap, e, _, _, h1, h2⟩
  · injection e with e1 e2 e3; subst e3; subst e2; exact ⟨Nat.le_refl _, by decide⟩
  · injection e with e1 e2 e3; subst e3; subst e2; exact ⟨h1, h2⟩
end

section
variable {P : Program} {w : World} {ops : Array Oper} {rest : List Oper} {o : Oper} {a : Act} {Q : Exit → Act → World → Prop}
/-- 'append(v, x...)', v of the call's own or nil, x a slice of the same elements, whatever it is. -/
theorem wpList_appR (hgd : o.guard = none) (s x : Operand) (t tx : TypeId)
    (ho : o.op = .call { callee := .builtin .append, args := #[s, x], argTypes := #[t, tx] })
    (E ex : TypeId) (z0 : Value) (sz bytes : Nat) (ht : P.underlying t = some (.slice E)) (htx : P.underlying tx = some (.slice ex)) (hi : (P.info? E).map (fun i => (i.zero, i.size, i.bytes)) = some (some z0, sz, bytes)) (hz : z0.cells.size = sz) (hsz : 0 < sz) (hb : bytes ≤ 256)
    (lo : Nat) (v : Value) (n : Nat) (xs : List Value) (hs : a.eval s = v) (hown : w.ownsRow lo E sz v n xs)
    (A : Option Addr) (m c B : Nat) (zs : List Value) (hx : a.eval x = .slice A m c) (hsrc : CellsAt w B A (m * sz) zs) (h1 : ∀ u ∈ zs, u.oneCell' = true) (hnil : A = none → m = 0 ∧ c = 0)
    (hbytes : n + m ≤ 274877906944) (hlo : lo ≤ w.heap.size)
    (h : ∀ v' w', w'.ownsRow lo E sz v' (n + m) (xs ++ zs) → w.grownBy w' v.ownBlock → (v'.ownBlock = v.ownBlock ∨ v'.ownBlock = some w.heap.size) → wpList P ops Q rest (a.put o.dst v') w') :
    wpList P ops Q (o :: rest) a w := by
  refine wpList_plain hgd fun K hK => ?_
  obtain ⟨i, hi1, hz1, hsz1, hby⟩ := info_parts hi
  have hzs := hsrc.1
  obtain ⟨Av, cv, hv⟩ := ownr_sliced hown
  cases A with
  | none =>
    obtain ⟨rfl, rfl⟩ := hnil rfl
    have hz0 : zs = [] := List.eq_nil_of_length_eq_zero (by rw [hzs]; simp)
    subst hz0
    have hrun := run_append_owned_none (P := P) (w := w) lo t o.type E i sz ht hi1 v n _ hown
    have hrun2 := (run_append_types ht htx o.type Av n cv (.slice none 0 0) w).trans (hv ▸ hrun)
    unfold Oper.wp
    simp [execOp, ho, resolve, invoke, builtin, hs, hx, hv, hrun2, Result.andThen]
    exact hK _ _ (hv ▸ h v w (by rw [List.append_nil]; exact hown) (World.grownBy.refl _ _) (.inl rfl))
  | some ad =>
    have hnews : ∀ (j : Nat) u, zs[j]? = some u → w.cell? (ad.add j) = some u := by
      intro j u hj
      have hlt := (List.getElem?_eq_some_iff.1 hj).1
      obtain ⟨ad', e, _, hc⟩ := hsrc.2 (by rw [← hzs]; omega)
      injection e with e
      subst e
      exact hc j u hj
    obtain ⟨v', w', hr, h2, h3, h4, h5⟩ := run_append_own_at (P := P) w lo t o.type E i z0 sz bytes ht hi1 hz1 hsz1 hby hz hsz v n _ hown ad m c zs hzs hnews h1
      (by unfold maxLen; omega) (by have : (n + m) * bytes ≤ (n + m) * 256 := Nat.mul_le_mul_left _ hb; omega) hlo
    have hrun2 := (run_append_types ht htx o.type Av n cv (.slice (some ad) m c) w).trans (hv ▸ hr)
    unfold Oper.wp execOp
    simp only [ho, resolve, invoke, builtin, Sem.run_bind, Sem.run_pure, Result.andThen_ok, List.map_toArray, List.map_cons, List.map_nil, hs, hx, hv, hrun2]
    exact hK _ _ (h v' w' h2 h3 h5)
theorem cells_new (w : World) (cs : List Value) (T : TypeId) (fr : Nat × Nat) (m : Nat) (hm : cs.length = m) : CellsAt (w.alloc (.cells cs.toArray T fr)) (w.heap.size + 1) (some ⟨w.heap.size, 0, none⟩) m cs :=
  ⟨hm, fun _ => ⟨_, rfl, by simp, fun j u hj => by rw [add_head, cell_of_row _ _ j cs.toArray T fr (heap_alloc_new w _)]; simpa using hj⟩⟩
/-- 'append(v, x)', one element: it lies in a block of its own, the newest. -/
theorem wpList_appR1 (hgd : o.guard = none) (s x : Operand) (t : TypeId)
    (ho : o.op = .call { callee := .builtin .append, args := #[s, x], argTypes := #[t, t] })
    (E : TypeId) (z0 : Value) (sz bytes : Nat) (ht : P.underlying t = some (.slice E)) (hi : (P.info? E).map (fun i => (i.zero, i.size, i.bytes)) = some (some z0, sz, bytes)) (hz : z0.cells.size = sz) (hsz : 0 < sz) (hb : bytes ≤ 256)
    (lo : Nat) (v : Value) (n : Nat) (xs : List Value) (hs : a.eval s = v) (hown : w.ownsRow lo E sz v n xs) (hbytes : n < 274877906944)
    (cs : List Value) (hcs : cs.length = sz) (h1 : ∀ u ∈ cs, u.oneCell' = true) (fr : Nat × Nat) (T : TypeId) (H : Nat) (hlo : lo ≤ H) (hx : a.eval x = .slice (some ⟨H, 0, none⟩) 1 1) (hH : (w.alloc (.cells cs.toArray T fr)).heap.size = H + 1)
    (h : ∀ v' w', w'.ownsRow lo E sz v' (n + 1) (xs ++ cs) → (w.alloc (.cells cs.toArray T fr)).grownBy w' v.ownBlock → (v'.ownBlock = v.ownBlock ∨ v'.ownBlock = some (H + 1)) → wpList P ops Q rest (a.put o.dst v') w') :
    wpList P ops Q (o :: rest) a (w.alloc (.cells cs.toArray T fr)) := by
  have hH' : w.heap.size = H := by simpa using hH
  subst hH'
  refine wpList_appR hgd s x t t ho E E z0 sz bytes ht ht hi hz hsz hb lo v n xs hs (World.ownsRow.alloc hown _) (some ⟨w.heap.size, 0, none⟩) 1 1 (w.heap.size + 1) cs hx (cells_new w cs T fr _ (by omega)) h1 (by simp) (by omega) (by simp; omega) (fun v' w' h1 h2 h3 => h v' w' h1 h2 (by simpa using h3))
/-- 'make([]T, n)'. -/
theorem wpList_mkR (hg : o.guard = none) (l c : Operand) (t : TypeId) (hop : o.op = Op.makeSlice t l c)
    (E : TypeId) (z0 : Value) (sz bytes : Nat) (ht : P.underlying t = some (.slice E)) (hi : (P.info? E).map (fun i => (i.zero, i.size, i.bytes)) = some (some z0, sz, bytes)) (hb : bytes ≤ 256)
    (L C : Int) (n : Nat) (hl : a.eval l = .int .i64 L) (hc : a.eval c = .int .i64 C) (hL : L = (n : Int)) (hC : C = (n : Int)) (hn : n ≤ 274877906944)
    (hK : ∀ w', w'.ownsRow w.heap.size E sz (.slice (some ⟨w.heap.size, 0, none⟩) n n) n (madeCells z0.cells (n * sz)).toList → w.grownBy w' none → wpList P ops Q rest (a.put o.dst (.slice (some ⟨w.heap.size, 0, none⟩) n n)) w') :
    wpList P ops Q (o :: rest) a w := by
  obtain ⟨i, hi1, hz, hsz, hby⟩ := info_parts hi
  exact wpList_make_full w hg l c t hop w.heap.size E i z0 sz ht hi1 hz hsz .i64 .i64 L C n hl hc hL hC (by rw [hby]; have : bytes * n ≤ 256 * n := Nat.mul_le_mul_right _ hb; omega) (by unfold maxLen; omega) (Nat.le_refl _) fun w' h1 h2 => hK w' h1 h2
/-- 'append(v, x)', one element, at a step of a region that draws its order. -/
theorem step_appR1 {K : Act → World → Prop} {F : Prop} (hgd : o.guard = none) (s x : Operand) (t : TypeId)
    (ho : o.op = .call { callee := .builtin .append, args := #[s, x], argTypes := #[t, t] })
    (E : TypeId) (z0 : Value) (sz bytes : Nat) (ht : P.underlying t = some (.slice E)) (hi : (P.info? E).map (fun i => (i.zero, i.size, i.bytes)) = some (some z0, sz, bytes)) (hz : z0.cells.size = sz) (hsz : 0 < sz) (hb : bytes ≤ 256)
    (lo : Nat) (v : Value) (n : Nat) (xs : List Value) (hs : a.eval s = v) (hown : w.ownsRow lo E sz v n xs) (hbytes : n < 274877906944)
    (cs : List Value) (hcs : cs.length = sz) (h1 : ∀ u ∈ cs, u.oneCell' = true) (H : Nat) (hlo : lo ≤ w.heap.size) (hx : a.eval x = .slice (some ⟨H, 0, none⟩) 1 1) (hc : ∀ (j : Nat) u, cs[j]? = some u → w.cell? ⟨H, j, none⟩ = some u)
    (h : ∀ v' w', w'.ownsRow lo E sz v' (n + 1) (xs ++ cs) → w.grownBy w' v.ownBlock → K (a.put o.dst v') w') :
    if Region.wanted o (yielded ops a.tmps) = true then Oper.wp P o a w K Q else F := by
  obtain ⟨i, hi1, hz1, hsz1, hby⟩ := info_parts hi
  refine step_append_lies w hgd s x t ho lo E i z0 sz bytes ht hi1 hz1 hsz1 hby hz hsz v n _ hs hown ⟨H, 0, none⟩ 1 1 cs hx (by omega) (fun j u hu => by rw [add_head]; exact hc j u hu) h1 (by omega) (by unfold maxLen; omega)
    (by have : (n + 1) * bytes ≤ (n + 1) * 256 := Nat.mul_le_mul_left _ hb; omega) hlo _ rfl ?_
  intro g cap w' h1 h2 _ _
  exact h _ w' h1 h2
end

theorem results_cell {fn : Func} {p : Tmp} {ty : TypeId} (h : fn.results = #[.cell p ty]) (tmps : Array Value) (P : Program) (w : World) :
    (results fn tmps).run P w = ((asAddr (tmps.getD p undef)).run P w).andThen fun a w₁ => (loadVar ty a).run P w₁ := by
  simp only [results, h]
  simp [Sem.run_bind, Result.andThen]
theorem set_at {pre rest : List Value} {z a : Value} {m : Nat} (h : pre.length = m) : (pre ++ z :: rest).set m a = pre ++ a :: rest := by
  subst h
  rw [List.set_append_right _ _ (Nat.le_refl _), Nat.sub_self, List.set_cons_zero]
theorem set4 {pre rest : List Value} {z0 z1 z2 z3 a b c d : Value} {m : Nat} (h : pre.length = m) : ((((pre ++ z0 :: z1 :: z2 :: z3 :: rest).set m a).set (m + 1) b).set (m + 2) c).set (m + 3) d = pre ++ a :: b :: c :: d :: rest := by
  rw [set_at h]
  have e1 : pre ++ a :: z1 :: z2 :: z3 :: rest = (pre ++ [a]) ++ z1 :: z2 :: z3 :: rest := by simp
  rw [e1, set_at (by simp [h])]
  have e2 : (pre ++ [a]) ++ b :: z2 :: z3 :: rest = (pre ++ [a, b]) ++ z2 :: z3 :: rest := by simp
  rw [e2, set_at (by simp [h])]
  have e3 : (pre ++ [a, b]) ++ c :: z3 :: rest = (pre ++ [a, b, c]) ++ z3 :: rest := by simp
  rw [e3, set_at (by simp [h])]
  simp
theorem drop4 {zs : List Value} {m : Nat} (h : m + 4 ≤ zs.length) : ∃ z0 z1 z2 z3, zs.drop m = z0 :: z1 :: z2 :: z3 :: zs.drop (m + 4) :=
  ⟨zs[m], zs[m + 1], zs[m + 2], zs[m + 3], by
    rw [List.drop_eq_getElem_cons (by omega), List.drop_eq_getElem_cons (by omega), List.drop_eq_getElem_cons (by omega), List.drop_eq_getElem_cons (by omega)]⟩
/-! Rows of a list's elements, each of so many cells. -/
section
variable {α : Type} {f : α → List Value} {s : Nat}
theorem flat_length (hf : ∀ x, (f x).length = s) (l : List α) : (l.flatMap f).length = l.length * s := by
  induction l with
  | nil => simp
  | cons x l ih => rw [List.flatMap_cons, List.length_append, hf, ih, List.length_cons, Nat.add_mul]; omega
theorem flat_get (hf : ∀ x, (f x).length = s) : ∀ (l : List α) (j i : Nat) (x : α), l[j]? = some x → i < s → (l.flatMap f)[j * s + i]? = (f x)[i]?
  | [], j, i, x, h, _ => by simp at h
  | y :: l, 0, i, x, h, hi => by
    simp at h
    subst h
    rw [List.flatMap_cons, List.getElem?_append_left (by rw [hf]; omega)]
    simp
  | y :: l, j + 1, i, x, h, hi => by
    rw [List.flatMap_cons, List.getElem?_append_right (by rw [hf, Nat.add_mul]; omega), hf]
    have e : (j + 1) * s + i - s = j * s + i := by rw [Nat.add_mul]; omega
    rw [e]
    exact flat_get hf l j i x (by simpa using h) hi
end
end Go.Proofs.YtlpkafhapmkkfaaGreatDoor

/- Contracts of the functions of chapter 1 that only compute with integers: program and model, each against one Lean function. -/
namespace Go.Proofs.YtlpkafhapmkkfaaGreatDoor
open Go.RowKit


def minI (a b : Int) : Int := if b < a then b else a
def maxI (a b : Int) : Int := if a < b then b else a

/-- the test 'a ≤ n ≤ b', closed to the walk. -/
def inB (n a b : Int) : Bool := decide (a ≤ n) && decide (n ≤ b)
theorem impl_InRange (n a b : Int) (w : World) : Calls Tryz.prog 68 #[.int .i64 n, .int .i64 a, .int .i64 b] w fun e w' => e = .returned (.bool (inB n a b)) ∧ w = w' := by
  unfold inB
  by_cases h1 : a ≤ n
  all_goals
    by_cases h2 : n ≤ b
    all_goals
      go_enter Tryz.func68, Tryz.ntmps68
      go_wp2
      go_ret
      exact ⟨by simp [h1, h2], rfl⟩
theorem spec_l1In (n a b : Int) (w : World) : Calls Tryz.prog 66 #[.int .i64 n, .int .i64 a, .int .i64 b] w fun e w' => e = .returned (.bool (inB n a b)) ∧ w = w' := by
  unfold inB
  by_cases h1 : a ≤ n
  all_goals
    by_cases h2 : n ≤ b
    all_goals
      go_enter Tryz.func66, Tryz.ntmps66
      go_wp2
      go_ret
      exact ⟨by simp [h1, h2], rfl⟩
theorem spec_Min (a b : Int) (w : World) : Calls Tryz.prog 55 #[.int .i64 a, .int .i64 b] w fun e w' => e = .returned (.int .i64 (minI a b)) ∧ w = w' := by
  by_cases h : b < a
  all_goals
    go_enter Tryz.func55, Tryz.ntmps55
    go_wp2
    go_ret
    exact ⟨ret_i (by first | (unfold minI; split <;> omega) | (unfold maxI; split <;> omega)), rfl⟩
theorem spec_Max (a b : Int) (w : World) : Calls Tryz.prog 101 #[.int .i64 a, .int .i64 b] w fun e w' => e = .returned (.int .i64 (maxI a b)) ∧ w = w' := by
  by_cases h : a < b
  all_goals
    go_enter Tryz.func101, Tryz.ntmps101
    go_wp2
    go_ret
    exact ⟨ret_i (by first | (unfold minI; split <;> omega) | (unfold maxI; split <;> omega)), rfl⟩
/-- what widen leaves. -/
def widenW (p q : Addr) (l g n : Int) (w : World) : World :=
  if g < n then (if n < l then w.setCell p (.int .i64 n) else w).setCell q (.int .i64 n) else if n < l then w.setCell p (.int .i64 n) else w
theorem widenW_lt {p q : Addr} {l g n : Int} {w : World} (h : n < l) (h2 : ¬ g < n) : widenW p q l g n w = w.setCell p (.int .i64 n) := by unfold widenW; rw [if_neg h2, if_pos h]
theorem widenW_gt {p q : Addr} {l g n : Int} {w : World} (h : ¬ n < l) (h2 : g < n) : widenW p q l g n w = w.setCell q (.int .i64 n) := by unfold widenW; rw [if_pos h2, if_neg h]
theorem widenW_eq {p q : Addr} {l g n : Int} {w : World} (h : ¬ n < l) (h2 : ¬ g < n) : widenW p q l g n w = w := by unfold widenW; rw [if_neg h2, if_neg h]
theorem impl_widen (p q : Addr) (l g n : Int) (w : World) (hl : w.cell? p = some (.int .i64 l)) (hg : w.cell? q = some (.int .i64 g)) (hpq : p ≠ q) (fp : w.frozen? p = false) (fq : w.frozen? q = false) :
    Calls Tryz.prog 133 #[.pointer (some p), .pointer (some q), .int .i64 n] w fun e w' => e = .returned (.tuple #[]) ∧
      w' = widenW p q l g n w := by
  have hg' : (w.setCell p (.int .i64 n)).cell? q = some (.int .i64 g) := by rw [World.cell?_setCell_other _ _ _ _ hpq]; exact hg
  by_cases h1 : n < l
  all_goals
    by_cases h2 : g < n
    all_goals
      go_enter Tryz.func133, Tryz.ntmps133
      go_wp2
      go_end0
      exact ⟨rfl, by unfold widenW; (repeat' split) <;> first | rfl | omega⟩
theorem impl_extremes1 (a r : Int) (b o : Nat) (w : World) (hb : b < w.heap.size) (hc : w.cell? ⟨b, o, none⟩ = some (.int .i64 r)) :
    Calls Tryz.prog 110 #[.int .i64 a, .slice (some ⟨b, o, none⟩) 1 1] w fun e w' =>
      e = .returned (.tuple #[.int .i64 (minI a r), .int .i64 (maxI a r)]) ∧ Below w.heap.size w w' := by
  by_cases h1 : r < a
  all_goals
    by_cases h2 : a < r
    first | omega | skip
    all_goals
      go_enter Tryz.func110, Tryz.ntmps110
      go_wp2
      refine wp_loop_rounds 2 ?_
      rw [rounds_succ]
      go_wp2_with fail
      refine (impl_widen _ _ a a r _ (by go_simp) (by go_simp) (by simp) (by go_simp) (by go_simp)).mono ?_
      rintro e w' ⟨rfl, rfl⟩
      first | rw [widenW_lt (by omega) (by omega)] | rw [widenW_gt (by omega) (by omega)] | rw [widenW_eq (by omega) (by omega)]
      go_wp2
      rw [rounds_succ]
      go_wp2
      go_quiet (fail)
      go_wp2
      go_ret2
      exact ⟨ret_ii (by unfold minI; split <;> omega) (by unfold maxI; split <;> omega), belowN (((Below.refl _ _).alloc (Nat.le_refl _) _).alloc (by simp) _) _⟩
theorem impl_Min (a b : Int) (w : World) : Calls Tryz.prog 62 #[.int .i64 a, .int .i64 b] w fun e w' => e = .returned (.int .i64 (minI a b)) ∧ Below w.heap.size w w' := by
  go_enter Tryz.func62, Tryz.ntmps62
  go_wp2_with fail
  refine (impl_extremes1 a b _ _ _ (by simp) (by go_simp)).mono ?_
  rintro e w' ⟨rfl, hb⟩
  go_wp2
  go_ret
  exact ⟨rfl, ((Below.refl _ _).alloc (Nat.le_refl _) _).trans (hb.mono (by simp))⟩
theorem impl_Max (a b : Int) (w : World) : Calls Tryz.prog 105 #[.int .i64 a, .int .i64 b] w fun e w' => e = .returned (.int .i64 (maxI a b)) ∧ Below w.heap.size w w' := by
  go_enter Tryz.func105, Tryz.ntmps105
  go_wp2_with fail
  refine (impl_extremes1 a b _ _ _ (by simp) (by go_simp)).mono ?_
  rintro e w' ⟨rfl, hb⟩
  go_wp2
  go_ret
  exact ⟨rfl, ((Below.refl _ _).alloc (Nat.le_refl _) _).trans (hb.mono (by simp))⟩
def ceilDiv (a b : Int) : Int := if inB a 0 1000000000000 && inB b 1 1000000000000 then (a + b - 1) / b else 0
def modI (a b : Int) : Int := if inB b 1 1000000000000 then a % b else 0
theorem mod_of_tmod (a b : Int) (hb : 1 ≤ b) : (a.tmod b < 0 → a.tmod b + b = a % b) ∧ (0 ≤ a.tmod b → a.tmod b = a % b) ∧ -b < a.tmod b ∧ a.tmod b < b := by
  have h1 := Int.tmod_lt_of_pos a (show 0 < b by omega)
  have h2 := Int.lt_tmod_of_pos a (show 0 < b by omega)
  have h3 : a % b = a.tmod b % b := by
    have h := Int.tmod_add_mul_tdiv a b
    conv => lhs; rw [← h]
    rw [Int.add_mul_emod_self_left]
  refine ⟨fun h => ?_, fun h => ?_, h2, h1⟩
  · rw [h3]
    have h4 : (a.tmod b + b) % b = a.tmod b % b := by simp
    rw [← h4, Int.emod_eq_of_lt (by omega) (by omega)]
  · rw [h3, Int.emod_eq_of_lt h h1]
theorem inB_t {n a b : Int} (h : inB n a b = true) : a ≤ n ∧ n ≤ b := by simpa [inB] using h
theorem inB_f {n a b : Int} (h : inB n a b = false) : n < a ∨ b < n := by simp [inB] at h; omega
theorem impl_Mod (a b : Int) (w : World) : Calls Tryz.prog 168 #[.int .i64 a, .int .i64 b] w fun e w' => e = .returned (.int .i64 (modI a b)) ∧ w = w' := by
  unfold modI
  cases h1 : inB b 1 1000000000000
  · have H1 := Lib.hid h1
    clear h1
    go_enter Tryz.func168, Tryz.ntmps168
    go_wp2_with (go_at_call 68; refine (impl_InRange _ _ _ _).mono ?_; rintro e w' ⟨rfl, rfl⟩; rw [H1.out])
    go_ret
    exact ⟨by simp, rfl⟩
  · obtain ⟨hb1, hb2⟩ := inB_t h1
    have H1 := Lib.hid h1
    clear h1
    by_cases hn : a.tmod b < 0
    all_goals
      go_enter Tryz.func168, Tryz.ntmps168
      go_wp2_with (go_at_call 68; refine (impl_InRange _ _ _ _).mono ?_; rintro e w' ⟨rfl, rfl⟩; rw [H1.out])
      go_ret
      refine ⟨ret_i ?_, rfl⟩
      obtain ⟨m1, m2, m3, m4⟩ := mod_of_tmod a b hb1
      first | (rw [IntWalk.wrap64_in _ (by omega)]; exact m1 (by omega)) | exact m2 (by omega)
end Go.Proofs.YtlpkafhapmkkfaaGreatDoor

/- Paths as Lean data: what chapter 4's functions answer. No program. -/
namespace Go.Proofs.YtlpkafhapmkkfaaGreatDoor
open Go.RowKit

/-- a path. -/
structure Pth where
  id : Int
  kind : Int
  frm : Int
  to : Int
deriving DecidableEq
def Pth.cells (p : Pth) : List Value := [.int .i64 p.id, .int .i64 p.kind, .int .i64 p.frm, .int .i64 p.to]
def Pth.val (p : Pth) : Value := .agg #[.int .i64 p.id, .int .i64 p.kind, .int .i64 p.frm, .int .i64 p.to]
theorem Pth.cells_length (p : Pth) : p.cells.length = 4 := rfl
def Pth.wf (p : Pth) : Prop := (Lit.int .i64 p.id).wf = true ∧ (Lit.int .i64 p.kind).wf = true ∧ (Lit.int .i64 p.frm).wf = true ∧ (Lit.int .i64 p.to).wf = true
/-- what IsPath answers. -/
def isP (p : Pth) : Bool := inB p.id 1 20 && inB p.kind 1 3 && inB p.frm 0 3 && inB p.to 0 3 && (decide (p.frm = p.to) == decide (p.kind = 2))
def inPl (a : Int) : Int := if inB a 0 3 then 2 * a else -1
def outPl (a : Int) : Int := if inB a 0 3 then 2 * a + 1 else -1
/-- the four turns. -/
def turnN (n : Int) : ByteArray := if n = 0 then ⟨#[119, 97, 108, 107]⟩ else if n = 1 then ⟨#[110, 101, 120, 116]⟩ else if n = 2 then ⟨#[111, 118, 101, 114]⟩ else ⟨#[108, 97, 115, 116]⟩
/-- what TurnOf answers. -/
def turnS (p : Pth) : ByteArray := if isP p then turnN (modI (p.to - p.frm) 4) else ⟨#[]⟩
theorem isP_facts (p : Pth) : isP p = true → (1 ≤ p.id ∧ p.id ≤ 20) ∧ (1 ≤ p.kind ∧ p.kind ≤ 3) ∧ (0 ≤ p.frm ∧ p.frm ≤ 3) ∧ (0 ≤ p.to ∧ p.to ≤ 3) ∧ (p.frm = p.to ↔ p.kind = 2) := by
  intro h
  simp only [isP, inB, Bool.and_eq_true, decide_eq_true_eq, beq_iff_eq, decide_eq_decide] at h
  obtain ⟨⟨⟨⟨h1, h2⟩, h3⟩, h4⟩, h5⟩ := h
  exact ⟨h1, h2, h3, h4, h5⟩
/-- x is met when one goes from a upwards, before b. -/
def betw (a x b : Int) : Bool := decide ((x - a) % 8 < (b - a) % 8)
/-- what Interleave answers. -/
def inter (a b c d : Int) : Bool :=
  decide (a ≠ b ∧ a ≠ c ∧ a ≠ d ∧ b ≠ c ∧ b ≠ d ∧ c ≠ d) && inB a 0 7 && inB b 0 7 && inB c 0 7 && inB d 0 7 && (betw a c b != betw a d b)
/-- how many of c and d are met before the p-th place behind a. -/
def met (a c d : Int) (p : Nat) : Nat := (if (c - a) % 8 < p then 1 else 0) + (if (d - a) % 8 < p then 1 else 0)
/-- the first i of these numbers are different and in range. -/
def okNs (l : List Int) (i : Nat) : Prop := ∀ j, j < i → inB (l.getD j 0) 0 7 = true ∧ ∀ k, k < j → l.getD j 0 ≠ l.getD k 0
theorem okNs_step {l : List Int} {i : Nat} (h : okNs l i) (h1 : inB (l.getD i 0) 0 7 = true) (h2 : ∀ k, k < i → l.getD i 0 ≠ l.getD k 0) : okNs l (i + 1) := by
  intro j hj
  by_cases e : j = i
  · subst e; exact ⟨h1, h2⟩
  · exact h j (by omega)
theorem okNs_four {a b c d : Int} (h : okNs [a, b, c, d] 4) : (inB a 0 7 = true ∧ inB b 0 7 = true ∧ inB c 0 7 = true ∧ inB d 0 7 = true) ∧ a ≠ b ∧ a ≠ c ∧ a ≠ d ∧ b ≠ c ∧ b ≠ d ∧ c ≠ d := by
  have h0 := h 0 (by decide)
  have h1 := h 1 (by decide)
  have h2 := h 2 (by decide)
  have h3 := h 3 (by decide)
  have e1 := h1.2 0 (by decide)
  have e2 := h2.2 0 (by decide)
  have e3 := h2.2 1 (by decide)
  have e4 := h3.2 0 (by decide)
  have e5 := h3.2 1 (by decide)
  have e6 := h3.2 2 (by decide)
  simp at h0 h1 h2 h3 e1 e2 e3 e4 e5 e6
  exact ⟨⟨h0, h1.1, h2.1, h3.1⟩, fun e => e1 e.symm, fun e => e2 e.symm, fun e => e4 e.symm, fun e => e3 e.symm, fun e => e5 e.symm, fun e => e6 e.symm⟩
theorem inter_four {a b c d : Int} (h : okNs [a, b, c, d] 4) : inter a b c d = (betw a c b != betw a d b) := by
  obtain ⟨⟨h0, h1, h2, h3⟩, h4⟩ := okNs_four h
  unfold inter
  rw [h0, h1, h2, h3, decide_eq_true h4]
  simp
theorem inter_eq {a b c d : Int} {j k : Nat} (hk : k < j) (hj : j < 4) (h : [a, b, c, d].getD j 0 = [a, b, c, d].getD k 0) : inter a b c d = false := by
  have h4 : ¬ (a ≠ b ∧ a ≠ c ∧ a ≠ d ∧ b ≠ c ∧ b ≠ d ∧ c ≠ d) := by
    rintro ⟨e1, e2, e3, e4, e5, e6⟩
    match j, k, hk, hj with
    | 1, 0, _, _ => exact e1 (by simpa using h.symm)
    | 2, 0, _, _ => exact e2 (by simpa using h.symm)
    | 2, 1, _, _ => exact e4 (by simpa using h.symm)
    | 3, 0, _, _ => exact e3 (by simpa using h.symm)
    | 3, 1, _, _ => exact e5 (by simpa using h.symm)
    | 3, 2, _, _ => exact e6 (by simpa using h.symm)
  unfold inter
  rw [decide_eq_false h4]
  simp
theorem inter_out {a b c d : Int} {j : Nat} (hj : j < 4) (h : inB ([a, b, c, d].getD j 0) 0 7 = false) : inter a b c d = false := by
  unfold inter
  match j, hj with
  | 0, _ => simp at h; simp [h]
  | 1, _ => simp at h; simp [h]
  | 2, _ => simp at h; simp [h]
  | 3, _ => simp at h; simp [h]
theorem met_end (a b c d : Int) : (decide (met a c d ((b - a) % 8).toNat = 1)) = (betw a c b != betw a d b) := by
  have e : (((b - a) % 8).toNat : Int) = (b - a) % 8 := by omega
  unfold met betw
  by_cases h1 : (c - a) % 8 < (b - a) % 8 <;> by_cases h2 : (d - a) % 8 < (b - a) % 8 <;> simp [e, h1, h2]
/-- what Conflict answers. -/
def conf (a b : Pth) : Bool :=
  if isP a && isP b && !(decide (a.kind = 2) && decide (b.kind = 2)) then
    if a.kind = 2 then decide (b.frm = a.frm) || decide (b.to = a.frm)
    else if b.kind = 2 then decide (a.frm = b.frm) || decide (a.to = b.frm)
    else if a.frm = b.frm then false
    else if a.to = b.to then true
    else inter (inPl a.frm) (outPl a.to) (inPl b.frm) (outPl b.to)
  else false
theorem conf_no {a b : Pth} (h : (isP a && isP b && !(decide (a.kind = 2) && decide (b.kind = 2))) = false) : conf a b = false := by unfold conf; rw [h]; rfl
/-- the index of the first path with this Id. -/
def findK (id : Int) : List Pth → Option Nat
  | [] => none
  | p :: ps => if p.id = id then some 0 else (findK id ps).map (· + 1)
/-- what FindPath answers. -/
def findI (id : Int) (ps : List Pth) : Int := match findK id ps with | none => -1 | some k => k
theorem findK_some {id : Int} : ∀ {ps : List Pth} {k : Nat} {p : Pth}, (∀ j q, j < k → ps[j]? = some q → q.id ≠ id) → ps[k]? = some p → p.id = id → findK id ps = some k
  | [], k, p, _, h, _ => by simp at h
  | x :: ps, 0, p, _, h, hp => by
    simp at h
    subst h
    simp [findK, hp]
  | x :: ps, k + 1, p, hn, h, hp => by
    have h0 := hn 0 x (by omega) (by simp)
    have ih := findK_some (ps := ps) (k := k) (p := p) (fun j q hj hq => hn (j + 1) q (by omega) (by simpa using hq)) (by simpa using h) hp
    simp [findK, h0, ih]
theorem findK_none {id : Int} : ∀ {ps : List Pth}, (∀ (j : Nat) q, ps[j]? = some q → q.id ≠ id) → findK id ps = none
  | [], _ => rfl
  | x :: ps, hn => by
    have h0 := hn 0 x (by simp)
    have ih := findK_none (ps := ps) (fun j q hq => hn (j + 1) q (by simpa using hq))
    simp [findK, h0, ih]
theorem findK_at {id : Int} : ∀ {ps : List Pth} {k : Nat}, findK id ps = some k → ∃ p, ps[k]? = some p ∧ p.id = id ∧ ∀ (j : Nat) q, j < k → ps[j]? = some q → q.id ≠ id
  | [], k, h => by simp [findK] at h
  | x :: ps, k, h => by
    unfold findK at h
    split at h
    · rename_i hx
      simp at h
      subst h
      exact ⟨x, by simp, hx, fun j q hj => absurd hj (by omega)⟩
    · rename_i hx
      cases e : findK id ps with
      | none => rw [e] at h; simp at h
      | some m =>
        rw [e] at h
        simp at h
        subst h
        obtain ⟨p, h1, h2, h3⟩ := findK_at e
        refine ⟨p, by simpa using h1, h2, fun j q hj hq => ?_⟩
        match j, hj, hq with
        | 0, _, hq => simp at hq; subst hq; exact hx
        | j + 1, hj, hq => exact h3 j q (by omega) (by simpa using hq)
/-- the k-th path is valid, and its Id is beyond the one before. -/
def goodAt (ps : List Pth) (k : Nat) : Bool := match ps[k]? with
  | none => false
  | some p => isP p && (match k with | 0 => true | m + 1 => match ps[m]? with | none => false | some q => decide (q.id < p.id))
/-- what ArePaths answers. -/
def arePs (ps : List Pth) : Bool := (List.range ps.length).all (goodAt ps) && decide (ps.length ≤ 12)
theorem arePs_no {ps : List Pth} {k : Nat} (hk : k < ps.length) (h : goodAt ps k = false) : arePs ps = false := by
  unfold arePs
  have : (List.range ps.length).all (goodAt ps) = false := by
    rw [Bool.eq_false_iff]
    intro ha
    have := List.all_eq_true.1 ha k (List.mem_range.2 hk)
    rw [h] at this
    cases this
  rw [this]
  rfl
theorem arePs_end {ps : List Pth} (h : ∀ k, k < ps.length → goodAt ps k = true) : arePs ps = decide (ps.length ≤ 12) := by
  unfold arePs
  have : (List.range ps.length).all (goodAt ps) = true := List.all_eq_true.2 fun k hk => h k (List.mem_range.1 hk)
  rw [this]
  simp
end Go.Proofs.YtlpkafhapmkkfaaGreatDoor

/- Contracts of the laws' own helpers: copies, comparisons, marks. -/
namespace Go.Proofs.YtlpkafhapmkkfaaGreatDoor
open Go.RowKit
set_option linter.unusedVariables false

/-- what a mark writes. -/
def marks (k : IntKind) (s : Int) (n : Nat) : List Int := (List.range n).map fun (j : Nat) => k.wrap (s + (j : Int))
theorem marks_length (k : IntKind) (s : Int) (n : Nat) : (marks k s n).length = n := by simp [marks]
theorem marks_getD {k : IntKind} {s : Int} {n j : Nat} (h : j < n) : (marks k s n).getD j 0 = k.wrap (s + (j : Int)) := by
  simp [marks, List.getD_eq_getElem?_getD, h]
theorem set_prefix {zs ys : List Int} {j : Nat} {x : Int} (h : j < zs.length) (hx : ys.getD j 0 = x) (hj : j < ys.length) : (ys.take j ++ zs.drop j).set j x = ys.take (j + 1) ++ zs.drop (j + 1) := by
  apply List.ext_getElem?
  intro i
  have e : ys[j]? = some x := by rw [List.getElem?_eq_getElem hj] ; rw [List.getD_eq_getElem?_getD, List.getElem?_eq_getElem hj] at hx; simpa using hx
  simp only [List.getElem?_set, List.getElem?_append, List.length_append, List.length_take, List.length_drop, List.getElem?_take, List.getElem?_drop]
  by_cases h1 : i < j
  · have a1 : i < min j ys.length := by omega
    have a2 : i < min (j + 1) ys.length := by omega
    have a3 : ¬ j = i := by omega
    have a4 : i < j + 1 := by omega
    simp [h1, a1, a2, a3, a4]
  · by_cases h2 : i = j
    · subst h2
      have a2 : i < min (i + 1) ys.length := by omega
      have a3 : i < min i ys.length + (zs.length - i) := by omega
      simp only [a2, a3, if_true, e]
      have : i < i + 1 := by omega
      simp [this]
    · have a1 : ¬ i < min j ys.length := by omega
      have a2 : ¬ i < min (j + 1) ys.length := by omega
      have a3 : ¬ j = i := by omega
      rw [if_neg a3, if_neg a1, if_neg a2]
      congr 1
      omega
theorem take_all {zs : List Int} {n : Nat} (h : zs.length = n) (ys : List Int) (hy : ys.length ≤ n) : zs.take n ++ ys.drop n = zs := by
  rw [List.take_of_length_le (by omega), List.drop_of_length_le (by omega), List.append_nil]
/-- the first j elements are the same. -/
theorem same_step {a b : List Int} {j : Nat} (h : a.take j = b.take j) (ha : j < a.length) (hb : j < b.length) (e : a.getD j 0 = b.getD j 0) : a.take (j + 1) = b.take (j + 1) := by
  have e' : a[j] = b[j] := by
    rw [List.getD_eq_getElem?_getD, List.getD_eq_getElem?_getD, List.getElem?_eq_getElem ha, List.getElem?_eq_getElem hb] at e
    simpa using e
  rw [List.take_add_one, List.take_add_one, h, List.getElem?_eq_getElem ha, List.getElem?_eq_getElem hb, e']
theorem same_not {a b : List Int} {j : Nat} (e : ¬ a.getD j 0 = b.getD j 0) : decide (a = b) = false := by
  rw [decide_eq_false_iff_not]
  rintro rfl
  exact e rfl
theorem same_all {a b : List Int} {n : Nat} (h : a.take n = b.take n) (ha : a.length = n) (hb : b.length = n) : decide (a = b) = true := by
  rw [decide_eq_true_eq]
  rw [List.take_of_length_le (by omega), List.take_of_length_le (by omega)] at h
  exact h

theorem info_u8 : (Tryz.prog.info? 5).map (fun i => (i.zero, i.size, i.bytes)) = some (some (.int .u8 0), 1, IntKind.u8.bits / 8) := by kernel_rfl
theorem info_i64 : (Tryz.prog.info? 3).map (fun i => (i.zero, i.size, i.bytes)) = some (some (.int .i64 0), 1, IntKind.i64.bits / 8) := by kernel_rfl
theorem to_i64 (A : Option Addr) (n c B : Nat) (zs : List Int) (w : World) (h : IntsAt .i64 w B A n zs) (hB : B ≤ w.heap.size) (hn : n ≤ 4398046511104) :
    Calls Tryz.prog 90 #[.slice A n c] w fun e w' => e = .returned (.slice (some ⟨w.heap.size, 0, none⟩) n n) ∧ Own .i64 3 w' w.heap.size (.slice (some ⟨w.heap.size, 0, none⟩) n n) zs ∧ Below w.heap.size w w' := by
  have hl := h.1
  go_enter Tryz.func90, Tryz.ntmps90
  go_wp2_with ((with_reducible show wpList _ _ _ _ _ _); refine wpList_mk rfl _ _ _ rfl .i64 3 _ Tryz.underlying58 info_i64 (by decide) (n : Int) (n : Int) n rfl rfl rfl rfl hn ?_; intro w1 hown hgrow)
  go_loopw [4] (fun i wr => ∃ k : Nat, k ≤ n ∧ i = .int .i64 k ∧ Own .i64 3 wr w.heap.size (.slice (some ⟨w.heap.size, 0, none⟩) n n) (zs.take k ++ (List.replicate n 0).drop k) ∧ Below w.heap.size w wr) (fun i _ => n - (intOf i).toNat)
  case atStart => exact ⟨0, Nat.zero_le _, rfl, by simpa using hown, below_grown hgrow⟩
  case round =>
    obtain ⟨k, hk, rfl, hown, hbl⟩ := hrel
    by_cases hlt : k < n
    · obtain ⟨ad, rfl, hab, hcell⟩ := h.2 (by omega)
      have hc := (hbl.cell (by rw [add_block]; omega)).trans (hcell k hlt)
      have hf := hown.free k
      have hc2 := hown.cell k (by simp; omega)
      have hs := hown.stored k (zs.getD k 0)
      rw [set_prefix (by simp; omega) rfl (by omega)] at hs
      have HS := Lib.hid hs
      clear hcell hown hs
      generalize zs.getD k 0 = z at *
      go_wp2
      go_roundw
      case rel => exact ⟨k + 1, by omega, by go_num, HS.out, hbl.setCell (Nat.le_refl _) _⟩
      case measure => simp [intOf]; omega
    · obtain rfl : k = n := by omega
      rw [take_all hl _ (by simp)] at hown
      go_wp2
      go_ret
      exact ⟨rfl, hown, hbl⟩
theorem eq_i64 (A : Option Addr) (n c B : Nat) (zs : List Int) (A2 : Option Addr) (n2 c2 B2 : Nat) (zs2 : List Int) (w : World) (h : IntsAt .i64 w B A n zs) (h2 : IntsAt .i64 w B2 A2 n2 zs2) (hn : n ≤ 4398046511104) (hn2 : n2 ≤ 4398046511104) :
    Calls Tryz.prog 76 #[.slice A n c, .slice A2 n2 c2] w fun e w' => e = .returned (.bool (decide (zs = zs2))) ∧ Below w.heap.size w w' := by
  have hl := h.1
  have hl2 := h2.1
  by_cases hne : n = n2
  · subst hne
    go_enter Tryz.func76, Tryz.ntmps76
    go_wp2
    go_loopw [5] (fun i wr => ∃ k : Nat, k ≤ n ∧ i = .int .i64 k ∧ zs.take k = zs2.take k ∧ Below w.heap.size w wr ∧ wr.heap = w.heap) (fun i _ => n - (intOf i).toNat)
    case atStart => exact ⟨0, Nat.zero_le _, rfl, by simp, Below.refl _ _, rfl⟩
    case round =>
      obtain ⟨k, hk, rfl, hsame, hbl, hheap⟩ := hrel
      by_cases hlt : k < n
      · obtain ⟨ad, rfl, hab, hcell⟩ := h.2 (by omega)
        obtain ⟨ad2, rfl, hab2, hcell2⟩ := h2.2 (by omega)
        have hc : wr.cell? (ad.add k) = _ := (World.cell?_of_block (by rw [hheap])).trans (hcell k hlt)
        have hc2 : wr.cell? (ad2.add k) = _ := (World.cell?_of_block (by rw [hheap])).trans (hcell2 k hlt)
        have HH := Lib.hid hheap
        clear hcell hcell2 hheap
        by_cases e : zs.getD k 0 = zs2.getD k 0
        · have HN := Lib.hid (same_step hsame (by omega) (by omega) e)
          clear hsame
          have e' : (!(zs.getD k 0 == zs2.getD k 0)) = false := by simpa using e
          have E' := Lib.hid e'
          clear e e'
          generalize zs.getD k 0 = z at *
          generalize zs2.getD k 0 = z2 at *
          have e' := E'.out
          obtain rfl : z = z2 := by simpa using e'
          clear e'
          go_wp2
          go_quiet (fail)
          go_wp2
          go_roundw
          case rel => exact ⟨k + 1, by omega, by go_num, HN.out, belowN hbl _, HH.out⟩
          case measure => simp [intOf]; omega
        · have HN := Lib.hid (same_not e)
          have e' : (!(zs.getD k 0 == zs2.getD k 0)) = true := by simpa using e
          have e2 : (zs.getD k 0 != zs2.getD k 0) = true := by simpa using e
          clear hsame e
          generalize zs.getD k 0 = z at *
          generalize zs2.getD k 0 = z2 at *
          go_wp2
          go_quiet (fail)
          go_wp2
          go_ret
          exact ⟨by rw [HN.out]; rfl, belowN hbl _⟩
      · obtain rfl : k = n := by omega
        have HN := Lib.hid (same_all hsame hl hl2)
        clear hsame
        go_wp2
        go_ret
        exact ⟨by rw [HN.out]; rfl, hbl⟩
  · have HN : Hid (decide (zs = zs2) = false) := Lib.hid (by rw [decide_eq_false_iff_not]; rintro rfl; omega)
    go_enter Tryz.func76, Tryz.ntmps76
    go_wp2
    go_ret
    exact ⟨by rw [HN.out]; rfl, Below.refl _ _⟩
theorem spec_EqualInts (A : Option Addr) (n c B : Nat) (zs : List Int) (A2 : Option Addr) (n2 c2 B2 : Nat) (zs2 : List Int) (w : World) (h : IntsAt .i64 w B A n zs) (h2 : IntsAt .i64 w B2 A2 n2 zs2) (hn : n ≤ 4398046511104) (hn2 : n2 ≤ 4398046511104) :
    Calls Tryz.prog 135 #[.slice A n c, .slice A2 n2 c2] w fun e w' => e = .returned (.bool (decide (zs = zs2))) ∧ Below w.heap.size w w' := by
  have hl := h.1
  have hl2 := h2.1
  by_cases hne : n = n2
  · subst hne
    go_enter Tryz.func135, Tryz.ntmps135
    go_wp2
    go_loopw [5] (fun i wr => ∃ k : Nat, k ≤ n ∧ i = .int .i64 k ∧ zs.take k = zs2.take k ∧ Below w.heap.size w wr ∧ wr.heap = w.heap) (fun i _ => n - (intOf i).toNat)
    case atStart => exact ⟨0, Nat.zero_le _, rfl, by simp, Below.refl _ _, rfl⟩
    case round =>
      obtain ⟨k, hk, rfl, hsame, hbl, hheap⟩ := hrel
      by_cases hlt : k < n
      · obtain ⟨ad, rfl, hab, hcell⟩ := h.2 (by omega)
        obtain ⟨ad2, rfl, hab2, hcell2⟩ := h2.2 (by omega)
        have hc : wr.cell? (ad.add k) = _ := (World.cell?_of_block (by rw [hheap])).trans (hcell k hlt)
        have hc2 : wr.cell? (ad2.add k) = _ := (World.cell?_of_block (by rw [hheap])).trans (hcell2 k hlt)
        have HH := Lib.hid hheap
        clear hcell hcell2 hheap
        by_cases e : zs.getD k 0 = zs2.getD k 0
        · have HN := Lib.hid (same_step hsame (by omega) (by omega) e)
          clear hsame
          have e' : (!(zs.getD k 0 == zs2.getD k 0)) = false := by simpa using e
          have E' := Lib.hid e'
          clear e e'
          generalize zs.getD k 0 = z at *
          generalize zs2.getD k 0 = z2 at *
          have e' := E'.out
          obtain rfl : z = z2 := by simpa using e'
          clear e'
          go_wp2
          go_quiet (fail)
          go_wp2
          go_roundw
          case rel => exact ⟨k + 1, by omega, by go_num, HN.out, belowN hbl _, HH.out⟩
          case measure => simp [intOf]; omega
        · have HN := Lib.hid (same_not e)
          have e' : (!(zs.getD k 0 == zs2.getD k 0)) = true := by simpa using e
          have e2 : (zs.getD k 0 != zs2.getD k 0) = true := by simpa using e
          clear hsame e
          generalize zs.getD k 0 = z at *
          generalize zs2.getD k 0 = z2 at *
          go_wp2
          go_quiet (fail)
          go_wp2
          go_ret
          exact ⟨by rw [HN.out]; rfl, belowN hbl _⟩
      · obtain rfl : k = n := by omega
        have HN := Lib.hid (same_all hsame hl hl2)
        clear hsame
        go_wp2
        go_ret
        exact ⟨by rw [HN.out]; rfl, hbl⟩
  · have HN : Hid (decide (zs = zs2) = false) := Lib.hid (by rw [decide_eq_false_iff_not]; rintro rfl; omega)
    go_enter Tryz.func135, Tryz.ntmps135
    go_wp2
    go_ret
    exact ⟨by rw [HN.out]; rfl, Below.refl _ _⟩
theorem mark_i64 (A : Option Addr) (n c lo s : Nat) (zs : List Int) (w : World) (h : Own .i64 3 w lo (.slice A n c) zs) (hn : n ≤ 4398046511104) (hs : s ≤ 70368744177664) :
    Calls Tryz.prog 48 #[.slice A n c, .int .i64 s] w fun e w' => e = .returned (.int .i64 ((s + n : Nat) : Int)) ∧ Own .i64 3 w' lo (.slice A n c) (marks .i64 s n) ∧ w.grownBy w' (Value.ownBlock (.slice A n c)) := by
  have hl := h.len
  go_enter Tryz.func48, Tryz.ntmps48
  go_wp2
  go_loopw [1, 5] (fun x i wr => ∃ k : Nat, k ≤ n ∧ i = .int .i64 k ∧ x = .int .i64 ((s + k : Nat) : Int) ∧ Own .i64 3 wr lo (.slice A n c) ((marks .i64 s n).take k ++ zs.drop k) ∧ w.grownBy wr (Value.ownBlock (.slice A n c))) (fun _ i _ => n - (intOf i).toNat)
  case atStart => exact ⟨0, Nat.zero_le _, rfl, rfl, by simpa using h, World.grownBy.refl _ _⟩
  case round =>
    obtain ⟨k, hk, rfl, rfl, hown, hbl⟩ := hrel
    by_cases hlt : k < n
    · rcases hown.shape with ⟨e, he⟩ | ⟨g, cap, e, hg, hgs, _⟩
      · injection e with _ e2; omega
      · injection e with e1 _ e3
        obtain rfl := e1
        have hc := hown.cell k (by simp [marks]; omega)
        have hf := hown.free k
        have hst := hown.stored k (IntKind.i64.wrap ((s + k : Nat) : Int))
        rw [set_prefix (by omega) (by rw [marks_getD hlt]; simp) (by rw [marks_length]; exact hlt)] at hst
        have HS := Lib.hid hst
        have HG := Lib.hid hbl
        clear hown hst hbl
        generalize ((marks .i64 s n).take k ++ zs.drop k).getD k 0 = z at *
        go_wp2
        go_roundw
        case rel =>
          refine ⟨k + 1, by omega, by go_num, by go_num, ?_, ?_⟩
          · have h1 := HS.out
            simp at h1 ⊢
            first
              | exact h1
              | (rw [show IntKind.i64.wrap ((s : Int) + (k : Int)) = (s : Int) + (k : Int) from by rw [IntKind.wrap_i64]; omega] at h1; exact h1)
          · exact only_setCell HG.out _ _
        case measure => simp [intOf]; omega
    · obtain rfl : k = n := by omega
      rw [take_all (marks_length _ _ _) _ (by omega)] at hown
      go_wp2
      go_ret
      exact ⟨rfl, hown, hbl⟩
theorem held_i64 (A : Option Addr) (n c B s : Nat) (w : World) (h : IntsAt .i64 w B A n (marks .i64 s n)) (hn : n ≤ 4398046511104) (hs : s ≤ 70368744177664) :
    Calls Tryz.prog 65 #[.slice A n c, .int .i64 s] w fun e w' => e = .returned (.int .i64 ((s + n : Nat) : Int)) ∧ Below w.heap.size w w' := by
  go_enter Tryz.func65, Tryz.ntmps65
  go_wp2
  go_loopw [1, 5] (fun x i wr => ∃ k : Nat, k ≤ n ∧ i = .int .i64 k ∧ x = .int .i64 ((s + k : Nat) : Int) ∧ Below w.heap.size w wr ∧ wr.heap = w.heap) (fun _ i _ => n - (intOf i).toNat)
  case atStart => exact ⟨0, Nat.zero_le _, rfl, rfl, Below.refl _ _, rfl⟩
  case round =>
    obtain ⟨k, hk, rfl, rfl, hbl, hheap⟩ := hrel
    by_cases hlt : k < n
    · obtain ⟨ad, rfl, hab, hcell⟩ := h.2 (by omega)
      have hc : wr.cell? (ad.add k) = _ := (World.cell?_of_block (by rw [hheap])).trans (hcell k hlt)
      rw [marks_getD hlt] at hc
      have HH := Lib.hid hheap
      clear hcell hheap
      go_wp2
      go_roundw
      case rel => exact ⟨k + 1, by omega, by go_num, by go_num, hbl, HH.out⟩
      case measure => simp [intOf]; omega
    · obtain rfl : k = n := by omega
      go_wp2
      go_ret
      exact ⟨rfl, hbl⟩
end Go.Proofs.YtlpkafhapmkkfaaGreatDoor

/- Contracts of chapter 4: program and model. -/
namespace Go.Proofs.YtlpkafhapmkkfaaGreatDoor
open Go.RowKit
set_option linter.unusedVariables false

theorem boxed {w w1 : World} {cs : Array Value} {T : TypeId} {fr : Nat × Nat} (hb : Below (w.alloc (.cells cs T fr)).heap.size (w.alloc (.cells cs T fr)) w1) (j : Nat) : w1.cell? ⟨w.heap.size, j, none⟩ = cs[j]? := by
  rw [hb.cell (p := ⟨w.heap.size, j, none⟩) (by simp), cell_of_row _ _ j cs T fr (heap_alloc_new w _)]
theorem cell_past {w : World} {p : Addr} {v : Value} (h : w.cell? p = some v) (o : Obj) : (w.alloc o).cell? p = some v := by
  have hlt : p.block < w.heap.size := by
    rcases Nat.lt_or_ge p.block w.heap.size with h' | h'
    · exact h'
    · simp [World.cell?, Array.getElem?_eq_none h'] at h
  exact (World.cell?_of_block (Below.heap_alloc w o _ hlt)).trans h
theorem spec_IsPath (p : Pth) (w : World) : Calls Tryz.prog 127 #[p.val] w fun e w' => e = .returned (.bool (isP p)) ∧ Below w.heap.size w w' := by
  obtain ⟨a, b, c, d⟩ := p
  simp only [Pth.val]
  have HI : Hid (isP ⟨a, b, c, d⟩ = (inB a 1 20 && inB b 1 3 && inB c 0 3 && inB d 0 3 && (decide (c = d) == decide (b = 2)))) := Lib.hid rfl
  go_enter Tryz.func127, Tryz.ntmps127
  go_wp2_with fail
  refine (spec_l1In _ _ _ _).mono ?_
  rintro e w1 ⟨rfl, rfl⟩
  cases h0 : inB a 1 20
  · rw [h0] at HI
    go_wp2
    go_ret
    exact ⟨by rw [HI.out]; simp, (Below.refl _ _).alloc (Nat.le_refl _) _⟩
  · rw [h0] at HI
    go_wp2_with fail
    refine (spec_l1In _ _ _ _).mono ?_
    rintro e w1 ⟨rfl, rfl⟩
    cases h1 : inB b 1 3
    · rw [h1] at HI
      go_wp2
      go_ret
      exact ⟨by rw [HI.out]; simp, (Below.refl _ _).alloc (Nat.le_refl _) _⟩
    · rw [h1] at HI
      go_wp2_with fail
      refine (spec_l1In _ _ _ _).mono ?_
      rintro e w1 ⟨rfl, rfl⟩
      cases h2 : inB c 0 3
      · rw [h2] at HI
        go_wp2
        go_ret
        exact ⟨by rw [HI.out]; simp, (Below.refl _ _).alloc (Nat.le_refl _) _⟩
      · rw [h2] at HI
        go_wp2_with fail
        refine (spec_l1In _ _ _ _).mono ?_
        rintro e w1 ⟨rfl, rfl⟩
        cases h3 : inB d 0 3
        · rw [h3] at HI
          go_wp2
          go_ret
          exact ⟨by rw [HI.out]; first | (simp; done) | (simp; rfl), (Below.refl _ _).alloc (Nat.le_refl _) _⟩
        · rw [h3] at HI
          go_wp2
          go_ret
          exact ⟨by rw [HI.out]; first | (simp; done) | (simp; rfl), (Below.refl _ _).alloc (Nat.le_refl _) _⟩
theorem spec_InPlace (a : Int) (w : World) : Calls Tryz.prog 140 #[.int .i64 a] w fun e w' => e = .returned (.int .i64 (inPl a)) ∧ w = w' := by
  have HM : Hid (inPl a = if inB a 0 3 then _ else -1) := Lib.hid rfl
  cases h : inB a 0 3
  · rw [h] at HM
    go_enter Tryz.func140, Tryz.ntmps140
    go_wp2_with fail
    refine (spec_l1In _ _ _ _).mono ?_
    rintro e w1 ⟨rfl, rfl⟩
    rw [h]
    go_wp2
    go_ret
    exact ⟨by rw [HM.out]; rfl, rfl⟩
  · rw [h] at HM
    obtain ⟨h1, h2⟩ := inB_t h
    go_enter Tryz.func140, Tryz.ntmps140
    go_wp2_with fail
    refine (spec_l1In _ _ _ _).mono ?_
    rintro e w1 ⟨rfl, rfl⟩
    rw [h]
    go_wp2
    go_ret
    exact ⟨by rw [HM.out]; rfl, rfl⟩
theorem spec_OutPlace (a : Int) (w : World) : Calls Tryz.prog 141 #[.int .i64 a] w fun e w' => e = .returned (.int .i64 (outPl a)) ∧ w = w' := by
  have HM : Hid (outPl a = if inB a 0 3 then _ else -1) := Lib.hid rfl
  cases h : inB a 0 3
  · rw [h] at HM
    go_enter Tryz.func141, Tryz.ntmps141
    go_wp2_with fail
    refine (spec_l1In _ _ _ _).mono ?_
    rintro e w1 ⟨rfl, rfl⟩
    rw [h]
    go_wp2
    go_ret
    exact ⟨by rw [HM.out]; rfl, rfl⟩
  · rw [h] at HM
    obtain ⟨h1, h2⟩ := inB_t h
    go_enter Tryz.func141, Tryz.ntmps141
    go_wp2_with fail
    refine (spec_l1In _ _ _ _).mono ?_
    rintro e w1 ⟨rfl, rfl⟩
    rw [h]
    go_wp2
    go_ret
    exact ⟨by rw [HM.out]; rfl, rfl⟩
end Go.Proofs.YtlpkafhapmkkfaaGreatDoor

/- What a law's walk knows of the slices that are alive; the laws' helpers in these words. -/
namespace Go.Proofs.YtlpkafhapmkkfaaGreatDoor
open Go.RowKit
set_option linter.unusedVariables false

/-- a slice that may be read: these integers, in memory that is there. -/
structure Sl (k : IntKind) (w : World) (A : Option Addr) (n c : Nat) (zs : List Int) : Prop where
  ints : IntsAt k w w.heap.size A n zs
  bare : A = none → n = 0 ∧ c = 0
  small : n ≤ 1099511627776
  cap : n ≤ c ∧ c ≤ maxLen
  wf : ∀ z ∈ zs, (Lit.int k z).wf = true
theorem Sl.len {k : IntKind} {w : World} {A : Option Addr} {n c : Nat} {zs : List Int} (h : Sl k w A n c zs) : zs.length = n := h.ints.1
theorem IntsAt.up {k : IntKind} {w : World} {B B' : Nat} {A : Option Addr} {n : Nat} {zs : List Int} (h : IntsAt k w B A n zs) (hB : B ≤ B') : IntsAt k w B' A n zs :=
  ⟨h.1, fun hn => by obtain ⟨ad, e, hb, hc⟩ := h.2 hn; exact ⟨ad, e, by omega, hc⟩⟩
theorem Sl.below {k : IntKind} {w w' : World} {A : Option Addr} {n c : Nat} {zs : List Int} (h : Sl k w A n c zs) (hb : Below w.heap.size w w') : Sl k w' A n c zs :=
  ⟨(h.ints.keep fun _ hp => hb.cell hp).up hb.size, h.bare, h.small, h.cap, h.wf⟩
theorem Sl.u8 {w : World} {A : Option Addr} {n c : Nat} {zs : List Int} (h : Sl .u8 w A n c zs) : ∀ z ∈ zs, 0 ≤ z ∧ z ≤ 255 := fun z hz => by
  have h' : (decide (IntKind.u8.min ≤ z) && decide (z ≤ IntKind.u8.max)) = true := h.wf z hz
  simp only [Bool.and_eq_true, decide_eq_true_eq] at h'
  exact h'
theorem u8_wf {z : Int} (h : 0 ≤ z ∧ z ≤ 255) : (Lit.int .u8 z).wf = true := by
  show (decide (IntKind.u8.min ≤ z) && decide (z ≤ IntKind.u8.max)) = true
  simp only [Bool.and_eq_true, decide_eq_true_eq]
  exact h
theorem i64_wf {z : Int} (h : -9223372036854775808 ≤ z ∧ z ≤ 9223372036854775807) : (Lit.int .i64 z).wf = true := by
  show (decide (IntKind.i64.min ≤ z) && decide (z ≤ IntKind.i64.max)) = true
  simp only [Bool.and_eq_true, decide_eq_true_eq]
  exact h
/-- a slice of the call's own, in a row between two block numbers. -/
structure Ow (k : IntKind) (E : TypeId) (w : World) (lo hi : Nat) (v : Value) (zs : List Int) : Prop where
  own : Own k E w lo v zs
  lt : ∀ g, v.ownBlock = some g → g < hi
  top : hi ≤ w.heap.size
theorem Ow.new {k : IntKind} {E : TypeId} {w : World} {lo : Nat} {v : Value} {zs : List Int} (h : Own k E w lo v zs) : Ow k E w lo w.heap.size v zs := ⟨h, fun g e => (h.block g e).2, Nat.le_refl _⟩
theorem Ow.below {k : IntKind} {E : TypeId} {w w' : World} {lo hi : Nat} {v : Value} {zs : List Int} (h : Ow k E w lo hi v zs) (hb : Below w.heap.size w w') : Ow k E w' lo hi v zs := ⟨h.own.below hb, h.lt, Nat.le_trans h.top hb.size⟩
theorem Ow.ints {k : IntKind} {E : TypeId} {w : World} {lo hi : Nat} {A : Option Addr} {n c : Nat} {zs : List Int} (h : Ow k E w lo hi (.slice A n c) zs) : IntsAt k w w.heap.size A n zs := h.own.ints
theorem Own.nilcap' {k : IntKind} {E : TypeId} {w : World} {lo : Nat} {A : Option Addr} {n c : Nat} {zs : List Int} (h : Own k E w lo (.slice A n c) zs) : A = none → n = 0 ∧ c = 0 := by
  rintro rfl
  rcases h.shape with ⟨e, rfl⟩ | ⟨g, cap, e, _⟩
  · injection e with e1 e2 e3; exact ⟨e2, e3⟩
  · injection e with e1; cases e1
theorem Own.cap {k : IntKind} {E : TypeId} {w : World} {lo : Nat} {A : Option Addr} {n c : Nat} {zs : List Int} (h : Own k E w lo (.slice A n c) zs) : n ≤ c ∧ c ≤ maxLen := by
  have hn := h.len
  rcases h.shape with ⟨e, rfl⟩ | ⟨g, cap, e, _, _, h1, h2⟩
  · injection e with e1 e2 e3; subst e3; subst e2; exact ⟨Nat.le_refl _, by decide⟩
  · injection e with e1 e2 e3; subst e3; exact ⟨by omega, h2⟩
theorem Ow.sl {k : IntKind} {E : TypeId} {w : World} {lo hi : Nat} {A : Option Addr} {n c : Nat} {zs : List Int} (h : Ow k E w lo hi (.slice A n c) zs) (hn : n ≤ 1099511627776) (hw : ∀ z ∈ zs, (Lit.int k z).wf = true) : Sl k w A n c zs := ⟨h.ints, h.own.nilcap', hn, h.own.cap, hw⟩
/-- Rows between two block numbers alone have been written. -/
structure Part (lo hi : Nat) (w w' : World) : Prop where
  os : w'.os = w.os
  tape : w'.tape = w.tape
  output : w'.output = w.output
  size : w.heap.size ≤ w'.heap.size
  block : ∀ i, i < w.heap.size → (i < lo ∨ hi ≤ i) → w'.heap[i]? = w.heap[i]?
theorem Part.below {lo hi : Nat} {w w' : World} (h : Part lo hi w w') {B : Nat} (hB : B ≤ lo) (hs : B ≤ w.heap.size) : Below B w w' := ⟨h.os, h.tape, h.output, h.size, fun i hi => h.block i (by omega) (.inl (by omega))⟩
theorem Ow.part {k : IntKind} {E : TypeId} {w w' : World} {lo hi l h' : Nat} {v : Value} {zs : List Int} (h : Ow k E w lo hi v zs) (hp : Part l h' w w') (hd : hi ≤ l ∨ h' ≤ lo) : Ow k E w' lo hi v zs := by
  refine ⟨⟨h.own.1, ?_⟩, h.lt, Nat.le_trans h.top hp.size⟩
  rcases h.own.2 with h2 | ⟨g, cap, cur, rfl, hl, hg, r⟩
  · exact .inl h2
  · have hlt := h.lt g rfl
    have htop := h.top
    exact .inr ⟨g, cap, cur, rfl, hl, (hp.block g (by omega) (by omega)).trans hg, r⟩
theorem marked_i64 (A : Option Addr) (n c lo hi s : Nat) (zs : List Int) (w : World) (h : Ow .i64 3 w lo hi (.slice A n c) zs) (hn : n ≤ 4398046511104) (hs : s ≤ 70368744177664) :
    Calls Tryz.prog 48 #[.slice A n c, .int .i64 s] w fun e w' => e = .returned (.int .i64 ((s + n : Nat) : Int)) ∧ Ow .i64 3 w' lo hi (.slice A n c) (marks .i64 s n) ∧ Part lo hi w w' := by
  refine (mark_i64 A n c lo s zs w h.own hn hs).mono fun e w' ⟨he, ho, hg⟩ => ⟨he, ⟨ho, h.lt, Nat.le_trans h.top hg.size⟩, ⟨hg.os, hg.tape, hg.output, hg.size, fun i hi' hd => hg.block i hi' fun e => ?_⟩⟩
  have h1 := h.lt i e.symm
  have h2 := (h.own.block i e.symm).1
  omega
theorem eqs_i64 (A : Option Addr) (n c : Nat) (zs : List Int) (A2 : Option Addr) (n2 c2 : Nat) (w : World) (h : IntsAt .i64 w w.heap.size A n zs) (h2 : IntsAt .i64 w w.heap.size A2 n2 zs) (hn : n ≤ 4398046511104) (hn2 : n2 ≤ 4398046511104) :
    Calls Tryz.prog 76 #[.slice A n c, .slice A2 n2 c2] w fun e w' => e = .returned (.bool true) ∧ Below w.heap.size w w' :=
  (eq_i64 A n c _ zs A2 n2 c2 _ zs w h h2 hn hn2).mono fun e w' ⟨he, hb⟩ => ⟨by rw [he, decide_eq_true rfl], hb⟩
end Go.Proofs.YtlpkafhapmkkfaaGreatDoor

/- Rows of paths: the laws' helpers. -/
namespace Go.Proofs.YtlpkafhapmkkfaaGreatDoor
open Go.RowKit
set_option linter.unusedVariables false

/-- the cells of a list of paths. -/
def pcells (ps : List Pth) : List Value := ps.flatMap Pth.cells
theorem pcells_length (ps : List Pth) : (pcells ps).length = ps.length * 4 := flat_length (f := Pth.cells) (fun _ => rfl) ps
theorem pcells_take {ps : List Pth} {k : Nat} {p : Pth} (h : ps[k]? = some p) : pcells (ps.take (k + 1)) = pcells (ps.take k) ++ p.cells := by
  unfold pcells
  rw [List.take_add_one, h, List.flatMap_append]
  simp
theorem pcells_one (ps : List Pth) : ∀ u ∈ pcells ps, u.oneCell' = true := by
  intro u hu
  obtain ⟨p, _, hp⟩ := List.mem_flatMap.1 hu
  simp only [Pth.cells, List.mem_cons, List.not_mem_nil, or_false] at hp
  rcases hp with rfl | rfl | rfl | rfl <;> rfl
/-- one path stored behind those before it. -/
theorem pcells_put {ps : List Pth} {zs : List Value} {k : Nat} {p : Pth} (h : ps[k]? = some p) (hz : k * 4 + 4 ≤ zs.length) :
    ((((pcells (ps.take k) ++ zs.drop (k * 4)).set (k * 4) (.int .i64 p.id)).set (k * 4 + 1) (.int .i64 p.kind)).set (k * 4 + 2) (.int .i64 p.frm)).set (k * 4 + 3) (.int .i64 p.to) = pcells (ps.take (k + 1)) ++ zs.drop ((k + 1) * 4) := by
  obtain ⟨z0, z1, z2, z3, hd⟩ := drop4 hz
  have hk := (List.getElem?_eq_some_iff.1 h).1
  rw [hd, set4 (by rw [pcells_length, List.length_take]; omega), pcells_take h]
  simp [Pth.cells, Nat.add_mul]
/-- A slice value that holds these paths, in a block below B. -/
def PthsAt (w : World) (B : Nat) (A : Option Addr) (n : Nat) (ps : List Pth) : Prop := ps.length = n ∧ CellsAt w B A (n * 4) (pcells ps)
theorem PthsAt.keep {w w' : World} {B : Nat} {A : Option Addr} {n : Nat} {ps : List Pth} (h : PthsAt w B A n ps) (hk : ∀ p : Addr, p.block < B → w'.cell? p = w.cell? p) : PthsAt w' B A n ps := ⟨h.1, h.2.keep hk⟩
theorem PthsAt.below {w w' : World} {B : Nat} {A : Option Addr} {n : Nat} {ps : List Pth} (h : PthsAt w B A n ps) (hb : Below B w w') : PthsAt w' B A n ps := ⟨h.1, h.2.below hb⟩
theorem PthsAt.up {w : World} {B B' : Nat} {A : Option Addr} {n : Nat} {ps : List Pth} (h : PthsAt w B A n ps) (hB : B ≤ B') : PthsAt w B' A n ps := ⟨h.1, h.2.up hB⟩
/-- a path lies at q. -/
structure PthAt (w : World) (q : Addr) (p : Pth) : Prop where
  c0 : w.cell? q = some (.int .i64 p.id)
  c1 : w.cell? ⟨q.block, q.off + 1, none⟩ = some (.int .i64 p.kind)
  c2 : w.cell? ⟨q.block, q.off + 2, none⟩ = some (.int .i64 p.frm)
  c3 : w.cell? ⟨q.block, q.off + 3, none⟩ = some (.int .i64 p.to)
theorem PthAt.keep {w w' : World} {q : Addr} {p : Pth} (h : PthAt w q p) (e : w'.heap[q.block]? = w.heap[q.block]?) : PthAt w' q p :=
  ⟨(World.cell?_of_block e).trans h.c0, (World.cell?_of_block (a := ⟨q.block, q.off + 1, none⟩) e).trans h.c1, (World.cell?_of_block (a := ⟨q.block, q.off + 2, none⟩) e).trans h.c2, (World.cell?_of_block (a := ⟨q.block, q.off + 3, none⟩) e).trans h.c3⟩
theorem PthAt.below {w w' : World} {q : Addr} {p : Pth} {B : Nat} (h : PthAt w q p) (hb : Below B w w') (hB : q.block < B) : PthAt w' q p := h.keep (hb.block _ hB)
theorem add_plus (q : Addr) (i : Nat) (h : 0 < i) : q.add i = ⟨q.block, q.off + i, none⟩ := by unfold Addr.add; rw [if_neg (by omega)]
theorem PthsAt.at {w : World} {B : Nat} {A : Option Addr} {n : Nat} {ps : List Pth} (h : PthsAt w B A n ps) {k : Nat} (hk : k < n) : ∃ ad p, A = some ad ∧ (ad.add (k * 4)).block < B ∧ ps[k]? = some p ∧ PthAt w (ad.add (k * 4)) p := by
  obtain ⟨hl, _, hc⟩ := h
  obtain ⟨ad, e, hb, hc⟩ := hc (by omega)
  have hp : ps[k]? = some ps[k] := List.getElem?_eq_getElem (by omega)
  have hg := fun i (hi : i < 4) => flat_get (f := Pth.cells) (fun _ => rfl) ps k i _ hp hi
  have ha := fun i (hi : 0 < i) => (add_add ad (k * 4) i).symm.trans (add_plus _ i hi)
  refine ⟨ad, ps[k], e, by rw [add_block]; exact hb, hp, hc _ _ (hg 0 (by decide)), ?_, ?_, ?_⟩
  · rw [← ha 1 (by decide)]; exact hc _ _ (hg 1 (by decide))
  · rw [← ha 2 (by decide)]; exact hc _ _ (hg 2 (by decide))
  · rw [← ha 3 (by decide)]; exact hc _ _ (hg 3 (by decide))
theorem info_pth : (Tryz.prog.info? 67).map (fun i => (i.zero, i.size, i.bytes)) = some (some (.agg #[.int .i64 0, .int .i64 0, .int .i64 0, .int .i64 0]), 4, 32) := by kernel_rfl
theorem made_pth (n : Nat) : (madeCells (Value.agg #[Value.int .i64 0, Value.int .i64 0, Value.int .i64 0, Value.int .i64 0]).cells (n * 4)).toList = pcells (List.replicate n ⟨0, 0, 0, 0⟩) := by
  have h : (Value.agg #[Value.int .i64 0, Value.int .i64 0, Value.int .i64 0, Value.int .i64 0]).cells = #[Value.int .i64 0, Value.int .i64 0, Value.int .i64 0, Value.int .i64 0] := rfl
  rw [h]
  apply List.ext_getElem?
  intro i
  have hr : (pcells (List.replicate n ⟨0, 0, 0, 0⟩)) = List.replicate (n * 4) (Value.int .i64 0) := by
    induction n with
    | zero => rfl
    | succ n ih =>
      have e : (n + 1) * 4 = n * 4 + 1 + 1 + 1 + 1 := by omega
      unfold pcells at ih ⊢
      rw [List.replicate_succ, List.flatMap_cons, ih, e, List.replicate_succ, List.replicate_succ, List.replicate_succ, List.replicate_succ]
      rfl
  rw [hr]
  simp only [madeCells, Array.toList_map, List.getElem?_map, List.getElem?_replicate]
  by_cases hi : i < n * 4
  · have h4 : i % 4 = 0 ∨ i % 4 = 1 ∨ i % 4 = 2 ∨ i % 4 = 3 := by omega
    rcases h4 with h4 | h4 | h4 | h4 <;> simp [hi, h4]
  · simp [hi]
theorem law_toPath (p : Pth) (w : World) : Calls Tryz.prog 40 #[p.val] w fun e w' => e = .returned p.val ∧ Below w.heap.size w w' := by
  obtain ⟨a, b, c, d⟩ := p
  simp only [Pth.val]
  go_enter Tryz.func40, Tryz.ntmps40
  go_wp2
  refine bodyPost_ret (by rw [results_cell rfl]; go_simp; try rfl) rfl ?_
  exact ⟨rfl, ((((Below.refl _ _).alloc (Nat.le_refl _) _).alloc (by simp) _).alloc (by simp; omega) _)⟩
theorem law_toPathS (A : Option Addr) (n c B : Nat) (ps : List Pth) (w : World) (h : PthsAt w B A n ps) (hB : B ≤ w.heap.size) (hn : n ≤ 4294967296) :
    Calls Tryz.prog 11 #[.slice A n c] w fun e w' => e = .returned (.slice (some ⟨w.heap.size, 0, none⟩) n n) ∧ w'.ownsRow w.heap.size 67 4 (.slice (some ⟨w.heap.size, 0, none⟩) n n) n (pcells ps) ∧ Below w.heap.size w w' := by
  have hl := h.1
  go_enter Tryz.func11, Tryz.ntmps11
  go_wp2_with ((with_reducible show wpList _ _ _ _ _ _); refine wpList_mkR rfl _ _ _ rfl 67 _ 4 _ Tryz.underlying28 info_pth (by decide) (n : Int) (n : Int) n rfl rfl rfl rfl (by omega) ?_; intro w1 hown hgrow)
  go_loopw [4] (fun i wr => ∃ k : Nat, k ≤ n ∧ i = .int .i64 k ∧ wr.ownsRow w.heap.size 67 4 (.slice (some ⟨w.heap.size, 0, none⟩) n n) n (pcells (ps.take k) ++ (pcells (List.replicate n ⟨0, 0, 0, 0⟩)).drop (k * 4)) ∧ Below w.heap.size w wr) (fun i _ => n - (intOf i).toNat)
  case atStart => exact ⟨0, Nat.zero_le _, rfl, by rw [made_pth] at hown; simpa [pcells] using hown, below_grown hgrow⟩
  case round =>
    obtain ⟨k, hk, rfl, hown, hbl⟩ := hrel
    by_cases hlt : k < n
    · obtain ⟨ad, p, rfl, hab, hp, hq⟩ := h.at hlt
      obtain ⟨c0, c1, c2, c3⟩ := hq.below hbl (by omega)
      go_wp2_with fail
      refine (law_toPath p _).mono ?_
      rintro e w2 ⟨rfl, hb2⟩
      have hown2 := ownr_below hown hb2
      obtain ⟨x0, hx0⟩ := ownr_some hown2 (j := k * 4) (by omega)
      obtain ⟨x1, hx1⟩ := ownr_some hown2 (j := k * 4 + 1) (by omega)
      obtain ⟨x2, hx2⟩ := ownr_some hown2 (j := k * 4 + 2) (by omega)
      obtain ⟨x3, hx3⟩ := ownr_some hown2 (j := k * 4 + 3) (by omega)
      have f0 := World.ownsRow.frozenAt hown2
      have hst := (World.ownsRow.stored (World.ownsRow.stored (World.ownsRow.stored (World.ownsRow.stored hown2 (k * 4) (.int .i64 p.id)).1 (k * 4 + 1) (.int .i64 p.kind)).1 (k * 4 + 2) (.int .i64 p.frm)).1 (k * 4 + 3) (.int .i64 p.to)).1
      rw [pcells_put hp (by rw [pcells_length, List.length_replicate]; omega)] at hst
      have HS := Lib.hid hst
      have HB := Lib.hid (hbl.trans (hb2.mono hbl.size))
      simp only [Pth.val]
      clear hown hown2 hbl hb2 hst hq
      go_wp2
      go_roundw
      case rel => exact ⟨k + 1, by omega, by go_num, HS.out, (((HB.out.setCell (Nat.le_refl _) _).setCell (Nat.le_refl _) _).setCell (Nat.le_refl _) _).setCell (Nat.le_refl _) _⟩
      case measure => simp [intOf]; omega
    · obtain rfl : k = n := by omega
      rw [List.take_of_length_le (by omega), List.drop_of_length_le (by rw [pcells_length, List.length_replicate]; exact Nat.le_refl _), List.append_nil] at hown
      go_wp2
      go_ret
      exact ⟨rfl, hown, hbl⟩
theorem law_eqPath (p q : Pth) (w : World) : Calls Tryz.prog 46 #[p.val, q.val] w fun e w' => e = .returned (.bool (decide (p = q))) ∧ Below w.heap.size w w' := by
  obtain ⟨a, b, c, d⟩ := p
  obtain ⟨a', b', c', d'⟩ := q
  simp only [Pth.val, Pth.mk.injEq]
  have hb0 := ((Below.refl w.heap.size w).alloc (Nat.le_refl _) (.cells #[.int .i64 a, .int .i64 b, .int .i64 c, .int .i64 d] 67)).alloc (by simp) (.cells #[.int .i64 a', .int .i64 b', .int .i64 c', .int .i64 d'] 67)
  have HB := Lib.hid hb0
  clear hb0
  by_cases h0 : a = a'
  rotate_left
  · have e0 : (a != a') = true := by simpa using h0
    go_enter Tryz.func46, Tryz.ntmps46
    go_wp2
    go_ret
    exact ⟨by simp [h0], HB.out⟩
  subst h0
  by_cases h1 : b = b'
  rotate_left
  · have e0 : (b != b') = true := by simpa using h1
    go_enter Tryz.func46, Tryz.ntmps46
    go_wp2
    go_ret
    exact ⟨by simp [h1], HB.out⟩
  subst h1
  by_cases h2 : c = c'
  rotate_left
  · have e0 : (c != c') = true := by simpa using h2
    go_enter Tryz.func46, Tryz.ntmps46
    go_wp2
    go_ret
    exact ⟨by simp [h2], HB.out⟩
  subst h2
  by_cases h3 : d = d'
  rotate_left
  · have e0 : (d != d') = true := by simpa using h3
    go_enter Tryz.func46, Tryz.ntmps46
    go_wp2
    go_ret
    exact ⟨by simp [h3], HB.out⟩
  subst h3
  go_enter Tryz.func46, Tryz.ntmps46
  go_wp2
  go_ret
  exact ⟨by simp, HB.out⟩
theorem law_eqPathS (A : Option Addr) (n c B : Nat) (ps : List Pth) (A2 : Option Addr) (n2 c2 B2 : Nat) (qs : List Pth) (w : World) (h : PthsAt w B A n ps) (h2 : PthsAt w B2 A2 n2 qs) (hB : B ≤ w.heap.size) (hB2 : B2 ≤ w.heap.size) (hn : n ≤ 4294967296) (hn2 : n2 ≤ 4294967296) :
    Calls Tryz.prog 15 #[.slice A n c, .slice A2 n2 c2] w fun e w' => e = .returned (.bool (decide (ps = qs))) ∧ Below w.heap.size w w' := by
  have hl := h.1
  have hl2 := h2.1
  by_cases hne : n = n2
  · subst hne
    go_enter Tryz.func15, Tryz.ntmps15
    go_wp2
    go_loopw [5] (fun i wr => ∃ k : Nat, k ≤ n ∧ i = .int .i64 k ∧ ps.take k = qs.take k ∧ Below w.heap.size w wr) (fun i _ => n - (intOf i).toNat)
    case atStart => exact ⟨0, Nat.zero_le _, rfl, by simp, Below.refl _ _⟩
    case round =>
      obtain ⟨k, hk, rfl, hsame, hbl⟩ := hrel
      by_cases hlt : k < n
      · obtain ⟨ad, p, rfl, hab, hp, hq⟩ := h.at hlt
        obtain ⟨ad2, q, rfl, hab2, hp2, hq2⟩ := h2.at hlt
        replace hq := hq.below hbl (by omega)
        replace hq2 := hq2.below hbl (by omega)
        have i1 : (0 : Int) ≤ (k : Int) := by omega
        have i2 : (k : Int) < (n : Int) := by omega
        have hsz := hbl.size
        go_wp2
        go_region_held3 (fun W' => W'.cell? (ad.add (k * 4)) = some (.int .i64 p.id) ∧ W'.cell? ⟨(ad.add (k * 4)).block, (ad.add (k * 4)).off + 1, none⟩ = some (.int .i64 p.kind) ∧ W'.cell? ⟨(ad.add (k * 4)).block, (ad.add (k * 4)).off + 2, none⟩ = some (.int .i64 p.frm) ∧ W'.cell? ⟨(ad.add (k * 4)).block, (ad.add (k * 4)).off + 3, none⟩ = some (.int .i64 p.to) ∧
            W'.cell? (ad2.add (k * 4)) = some (.int .i64 q.id) ∧ W'.cell? ⟨(ad2.add (k * 4)).block, (ad2.add (k * 4)).off + 1, none⟩ = some (.int .i64 q.kind) ∧ W'.cell? ⟨(ad2.add (k * 4)).block, (ad2.add (k * 4)).off + 2, none⟩ = some (.int .i64 q.frm) ∧ W'.cell? ⟨(ad2.add (k * 4)).block, (ad2.add (k * 4)).off + 3, none⟩ = some (.int .i64 q.to))
          (first | exact ⟨hq.c0, hq.c1, hq.c2, hq.c3, hq2.c0, hq2.c1, hq2.c2, hq2.c3⟩ | exact ⟨hr.c0, hr.c1, hr.c2, hr.c3, hr2.c0, hr2.c1, hr2.c2, hr2.c3⟩ | fail "keep")
          (first
            | (go_at_call 46; refine (law_eqPath p q _).mono ?_; rintro e w3 ⟨rfl, hb3⟩; have hb3' : Below wr.heap.size wr w3 := below_undrew hb3; have hr := hq.below hb3' (by omega); have hr2 := hq2.below hb3' (by omega)))
        have HB := Lib.hid (hbl.trans (hb3'.mono hsz))
        clear hq hq2 hr hr2 hb3 hb3' hbl
        by_cases hpq : p = q
        · have HT : Hid (ps.take (k + 1) = qs.take (k + 1)) := Lib.hid (by rw [List.take_add_one, List.take_add_one, hsame, hp, hp2, hpq])
          rw [decide_eq_true hpq]
          clear hsame hp hp2
          go_wp2
          go_roundw
          case rel => exact ⟨k + 1, by omega, by go_num, HT.out, HB.out⟩
          case measure => simp [intOf]; omega
        · have HN : Hid (decide (ps = qs) = false) := Lib.hid (by rw [decide_eq_false_iff_not]; rintro rfl; rw [hp] at hp2; exact hpq (Option.some.inj hp2))
          rw [decide_eq_false hpq]
          clear hsame hp hp2
          go_wp2
          go_ret
          exact ⟨by rw [HN.out]; rfl, HB.out⟩
      · obtain rfl : k = n := by omega
        have HN : Hid (decide (ps = qs) = true) := Lib.hid (by rw [decide_eq_true_eq]; rwa [List.take_of_length_le (by omega), List.take_of_length_le (by omega)] at hsame)
        go_wp2
        go_ret
        exact ⟨by rw [HN.out]; rfl, hbl⟩
  · have HN : Hid (decide (ps = qs) = false) := Lib.hid (by rw [decide_eq_false_iff_not]; rintro rfl; omega)
    go_enter Tryz.func15, Tryz.ntmps15
    go_wp2
    go_ret
    exact ⟨by rw [HN.out]; rfl, Below.refl _ _⟩
theorem law_szPathS (A : Option Addr) (n c : Nat) (w : World) (hn : n ≤ 9223372036854775807) :
    Calls Tryz.prog 8 #[.slice A n c, .int .i64 1048576] w fun e w' => e = .returned (.int .i64 (if n ≤ 1048576 then 1048576 - (n : Int) else -1)) ∧ w = w' := by
  by_cases h : n ≤ 1048576
  · rw [if_pos h]
    go_enter Tryz.func8, Tryz.ntmps8
    go_wp2
    go_ret
    exact ⟨rfl, rfl⟩
  · rw [if_neg h]
    go_enter Tryz.func8, Tryz.ntmps8
    go_wp2
    go_ret
    exact ⟨rfl, rfl⟩
theorem law_markPathS (A : Option Addr) (n c lo s : Nat) (vs : List Value) (w : World) (h : w.ownsRow lo 67 4 (.slice A n c) n vs) (hn : n ≤ 4294967296) (hs : s ≤ 70368744177664) :
    Calls Tryz.prog 17 #[.slice A n c, .int .i64 s] w fun e w' => e = .returned (.int .i64 ((s + n * 4 : Nat) : Int)) ∧ w.grownBy w' (Value.ownBlock (.slice A n c)) := by
  go_enter Tryz.func17, Tryz.ntmps17
  go_wp2
  go_loopw [1, 5] (fun x i wr => ∃ k : Nat, k ≤ n ∧ i = .int .i64 k ∧ x = .int .i64 ((s + k * 4 : Nat) : Int) ∧ (∃ vs', wr.ownsRow lo 67 4 (.slice A n c) n vs') ∧ w.grownBy wr (Value.ownBlock (.slice A n c))) (fun _ i _ => n - (intOf i).toNat)
  case atStart => exact ⟨0, Nat.zero_le _, rfl, by simp, ⟨vs, h⟩, World.grownBy.refl _ _⟩
  case round =>
    obtain ⟨k, hk, rfl, rfl, ⟨vs', hown⟩, hbl⟩ := hrel
    by_cases hlt : k < n
    · rcases ownr_shape hown with ⟨e, he⟩ | ⟨g, cap, e, hg, hgs, _⟩
      · omega
      injection e with e1 _ e3
      obtain rfl := e1
      obtain ⟨x0, hx0⟩ := ownr_some hown (j := k * 4) (by omega)
      obtain ⟨x1, hx1⟩ := ownr_some hown (j := k * 4 + 1) (by omega)
      obtain ⟨x2, hx2⟩ := ownr_some hown (j := k * 4 + 2) (by omega)
      obtain ⟨x3, hx3⟩ := ownr_some hown (j := k * 4 + 3) (by omega)
      have f0 := World.ownsRow.frozenAt hown
      have hst := (World.ownsRow.stored (World.ownsRow.stored (World.ownsRow.stored (World.ownsRow.stored hown (k * 4) (.int .i64 ((s : Int) + (k : Int) * 4))).1 (k * 4 + 1) (.int .i64 ((s : Int) + (k : Int) * 4 + 1))).1 (k * 4 + 2) (.int .i64 ((s : Int) + (k : Int) * 4 + 1 + 1))).1 (k * 4 + 3) (.int .i64 ((s : Int) + (k : Int) * 4 + 1 + 1 + 1))).1
      have HS := Lib.hid hst
      have HG := Lib.hid hbl
      clear hown hbl hst
      go_wp2
      go_roundw
      case rel => exact ⟨k + 1, by omega, by go_num, by go_num, ⟨_, HS.out⟩, only_setCell (only_setCell (only_setCell (only_setCell HG.out _ _) _ _) _ _) _ _⟩
      case measure => simp [intOf]; omega
    · obtain rfl : k = n := by omega
      go_wp2
      go_ret
      exact ⟨rfl, hbl⟩
end Go.Proofs.YtlpkafhapmkkfaaGreatDoor

/- A law's arguments that are paths or rows of paths. -/
namespace Go.Proofs.YtlpkafhapmkkfaaGreatDoor
open Go.ChangeShapes Go.WideShapes Go.ChangeAt Go.RowKit Go.Joins
open Go.Deep (oneCellFields open_slice hone_of)

section
variable {H : Type} {enc : TypeId × Value → H} {P : Program}
theorem cell_int {W : World} {b0 : Nat} {sp : Nat → Bool} {hd : Bool} {n : Nat} {t : TypeId} {v : Value} {y : DataW H × List MemPlace} (ht : P.underlying t = some (.int .i64)) (h : DataW.trod enc P W b0 sp hd n t [v] = some y) : ∃ a : Int, v = .int .i64 a ∧ (Lit.int .i64 a).wf = true ∧ y.2 = [] := by
  obtain ⟨a, h1, h2, h3⟩ := DataW.trod_int ht h
  simp at h1
  exact ⟨a, h1, h3, by rw [h2]⟩
theorem arg_path {t : TypeId} {f0 f1 f2 f3 : Field} {W : World} {base : Nat} {v : Value} {d : DataW H} {ps : List MemPlace} (hs : P.underlying t = some (.struct #[f0, f1, f2, f3])) (hone : oneCellFields P #[f0, f1, f2, f3] = true) (hC : P.cellsOf t = 4)
    (h0 : P.underlying f0.type = some (.int .i64)) (h1 : P.underlying f1.type = some (.int .i64)) (h2 : P.underlying f2.type = some (.int .i64)) (h3 : P.underlying f3.type = some (.int .i64))
    (hval : Value.okWide P W .any base t v) (hd : DataW.Trod enc P W 0 (fun _ => true) true t v d ps) : ∃ p : Pth, v = p.val ∧ p.wf := by
  obtain ⟨v0, v1, v2, v3, y0, y1, y2, y3, n, rfl, -, -, t0, t1, t2, t3⟩ := open_agg4 hs hone hC hval hd
  obtain ⟨a, rfl, wa, -⟩ := cell_int h0 t0
  obtain ⟨b, rfl, wb, -⟩ := cell_int h1 t1
  obtain ⟨c, rfl, wc, -⟩ := cell_int h2 t2
  obtain ⟨e, rfl, we, -⟩ := cell_int h3 t3
  exact ⟨⟨a, b, c, e⟩, rfl, wa, wb, wc, we⟩
/-- the elements' fields of a slice of structs. -/
theorem open_slice_fields {w : World} {base : Nat} {spare : Nat → Bool} {held : Bool} {t e : TypeId} {fs : Array Field} {fuel : Nat} {cs : List Value} {x : DataW H × List MemPlace} (ht : P.underlying t = some (.slice e)) (he : P.underlying e = some (.struct fs))
    (hone : oneCellFields P fs = true) (hC : P.cellsOf e = fs.size) (h : DataW.trod enc P w base spare held fuel t cs = some x) :
    (cs = [.slice none 0 0] ∧ x = (.nil, [])) ∨
    ∃ (a : Addr) (len cap m : Nat) (D : Nat → DataW H) (Pl : Nat → List MemPlace), cs = [.slice (some a) len cap] ∧ base ≤ a.block ∧ len ≤ cap ∧ cap ≤ maxLen ∧ m = (if spare a.block then cap else len) ∧
      x = (.slice ((List.range len).map D) ((List.range (m - len)).map fun j => D (len + j)), MemPlace.row a (m * fs.size) ++ (List.range m).flatMap Pl) ∧
      ∀ i, i < m → ∃ (ys : List (DataW H × List MemPlace)) (n : Nat), D i = .agg (ys.map (·.1)) ∧ Pl i = ys.flatMap (·.2) ∧ ys.length = fs.size ∧
        ∀ (j : Nat) (f : Field), fs[j]? = some f → ∃ (v : Value) (y : DataW H × List MemPlace), w.cell? (a.add (i * fs.size + j)) = some v ∧ ys[j]? = some y ∧ DataW.trod enc P w base spare held n f.type [v] = some y := by
  rcases open_slice ht h with h0 | ⟨a, len, cap, m, n, D, Pl, hcs, hb, hl, hm, hmm, hx, hi⟩
  · exact .inl h0
  · refine .inr ⟨a, len, cap, m, D, Pl, hcs, hb, hl, hm, hmm, by rw [hC] at hx; exact hx, fun i him => ?_⟩
    obtain ⟨cs', hc, ht'⟩ := hi i him
    rw [hC] at hc
    obtain ⟨ys, n', hn', hy, hlen, hyl, hf⟩ := DataW.trod_struct he ht'
    obtain ⟨_, hcl, hat⟩ := World.cells?_some hc
    simp only [Prod.mk.injEq] at hy
    refine ⟨ys, n', hy.1, hy.2, hyl, fun j f hj => ?_⟩
    obtain ⟨ho, hk⟩ := hone_of hone j f hj
    have hjl : j < fs.size := (Array.getElem?_eq_some_iff.1 hj).1
    have hcell := hat j hjl
    have hv : cs'[j]? = some (cs'[j]'(by omega)) := List.getElem?_eq_getElem (by omega)
    have h1 := hf j f hj
    rw [ho, hk] at h1
    have hone' : (cs'.drop j).take 1 = [cs'[j]'(by omega)] := by
      rw [List.drop_eq_getElem_cons (by omega)]
      rfl
    rw [hone'] at h1
    have hys : ys[j]? = some (ys[j]'(by omega)) := List.getElem?_eq_getElem (by omega)
    refine ⟨_, _, ?_, hys, h1.trans hys⟩
    rw [← Go.Deep.add_add, hcell, hv]
theorem choose_upto {α : Type} {n : Nat} {R : Nat → α → Prop} (h : ∀ i, i < n → ∃ x, R i x) : ∃ l : List α, l.length = n ∧ ∀ (i : Nat) x, l[i]? = some x → R i x := by
  induction n with
  | zero => exact ⟨[], rfl, fun i x hi => by simp at hi⟩
  | succ n ih =>
    obtain ⟨l, hl, hR⟩ := ih fun i hi => h i (by omega)
    obtain ⟨x, hx⟩ := h n (by omega)
    refine ⟨l ++ [x], by simp [hl], fun i y hy => ?_⟩
    rw [List.getElem?_append] at hy
    split at hy
    · exact hR i y hy
    · rename_i hge
      have hi : i = n := by
        have := (List.getElem?_eq_some_iff.1 hy).1
        simp at this
        omega
      subst hi
      simp [hl] at hy
      subst hy
      exact hx
/-- A slice of paths that came in. -/
theorem arg_paths {t e : TypeId} {f0 f1 f2 f3 : Field} {W : World} {base : Nat} {v : Value} {d : DataW H} {ps : List MemPlace} (ht : P.underlying t = some (.slice e)) (he : P.underlying e = some (.struct #[f0, f1, f2, f3])) (hone : oneCellFields P #[f0, f1, f2, f3] = true) (hC : P.cellsOf e = 4)
    (h0 : P.underlying f0.type = some (.int .i64)) (h1 : P.underlying f1.type = some (.int .i64)) (h2 : P.underlying f2.type = some (.int .i64)) (h3 : P.underlying f3.type = some (.int .i64))
    (hval : Value.okWide P W .any base t v) (hd : DataW.Trod enc P W 0 (fun _ => true) true t v d ps) (hlt : ∀ x ∈ ps, x.block < W.heap.size) :
    ∃ (A : Option Addr) (n c : Nat) (zs : List Pth), v = .slice A n c ∧ (PthsAt W W.heap.size A n zs ∧ (∀ z ∈ zs, z.wf) ∧ n ≤ c ∧ c ≤ maxLen) := by
  obtain ⟨a, len, cap, rfl⟩ := okWide_slice ht hval
  obtain ⟨fuel, hf⟩ := hd
  rcases open_slice_fields ht he hone (by rw [hC]; rfl) hf with ⟨h1, _⟩ | ⟨a', len', cap', m, D, Pl, hcs, _, hl, hm, hmm, hx, hi⟩
  · have h1' : [Value.slice a len cap] = [Value.slice none 0 0] := h1
    simp only [List.cons.injEq, and_true] at h1'
    exact ⟨none, 0, 0, [], h1', ⟨rfl, rfl, fun h => absurd h (by omega)⟩, by simp, Nat.le_refl _, Nat.zero_le _⟩
  · have h1' : [Value.slice a len cap] = [Value.slice (some a') len' cap'] := hcs
    simp only [List.cons.injEq, and_true] at h1'
    rw [if_pos rfl] at hmm
    subst hmm
    obtain ⟨zs, hzl, hz⟩ := choose_upto (n := len') (R := fun i (p : Pth) => p.wf ∧ ∀ (j : Nat) u, p.cells[j]? = some u → W.cell? (a'.add (i * 4 + j)) = some u) (fun i hil => by
      obtain ⟨ys, n, _, _, _, hj⟩ := hi i (by omega)
      obtain ⟨v0, y0, c0, _, t0⟩ := hj 0 f0 rfl
      obtain ⟨v1, y1, c1, _, t1⟩ := hj 1 f1 rfl
      obtain ⟨v2, y2, c2, _, t2⟩ := hj 2 f2 rfl
      obtain ⟨v3, y3, c3, _, t3⟩ := hj 3 f3 rfl
      obtain ⟨x0, rfl, w0, -⟩ := cell_int h0 t0
      obtain ⟨x1, rfl, w1, -⟩ := cell_int h1 t1
      obtain ⟨x2, rfl, w2, -⟩ := cell_int h2 t2
      obtain ⟨x3, rfl, w3, -⟩ := cell_int h3 t3
      refine ⟨⟨x0, x1, x2, x3⟩, ⟨w0, w1, w2, w3⟩, fun j u hu => ?_⟩
      match j, hu with
      | 0, hu => simp [Pth.cells] at hu; subst hu; exact c0
      | 1, hu => simp [Pth.cells] at hu; subst hu; exact c1
      | 2, hu => simp [Pth.cells] at hu; subst hu; exact c2
      | 3, hu => simp [Pth.cells] at hu; subst hu; exact c3
      | j + 4, hu => simp [Pth.cells] at hu)
    refine ⟨some a', len', m, zs, h1', ⟨hzl, by rw [pcells_length, hzl], fun hn => ⟨a', rfl, ?_, fun j u hu => ?_⟩⟩, fun z hzm => ?_, hl, hm⟩
    · have hmem : MemPlace.cell a'.block (a'.off + 0) ∈ ps := by
        have e := congrArg Prod.snd hx
        simp only at e
        rw [e]
        exact List.mem_append_left _ (List.mem_map.2 ⟨0, List.mem_range.2 (by simp; omega), rfl⟩)
      exact hlt _ hmem
    · have hlen : j < zs.length * 4 := by
        have := (List.getElem?_eq_some_iff.1 hu).1
        rwa [pcells_length] at this
      have hd4 : j / 4 < zs.length := by omega
      have hp : zs[j / 4]? = some zs[j / 4] := List.getElem?_eq_getElem hd4
      have hg := flat_get (s := 4) (f := Pth.cells) (fun _ => rfl) zs (j / 4) (j % 4) _ hp (by omega)
      have ej : j / 4 * 4 + j % 4 = j := by clear hi hz hx; omega
      rw [ej] at hg
      have := (hz _ _ hp).2 (j % 4) u (hg.symm.trans hu)
      rwa [ej] at this
    · obtain ⟨i, hil, rfl⟩ := List.getElem_of_mem hzm
      exact (hz i _ (List.getElem?_eq_getElem hil)).1
end
end Go.Proofs.YtlpkafhapmkkfaaGreatDoor
