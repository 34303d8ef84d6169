/- What package value's two tables hold: which function an op is done by. -/
import Derived.Test.YtpnmefkbfonhpaaDoorUaB
import Derived.Maps.OwnSet
namespace Go.Proofs.YtpnmefkbfonhpaaDoor
open Go.RowKit Go.Maps

/-- HOW A FUNCTION VALUE READS: by its number; a nil one. -/
def fnElem (v : Value) : Option (DataW Unit × List MemPlace) :=
  match v with
  | .func (.func n) a b => if a.size = 0 ∧ b.size = 0 then some (.lit (.int .i64 n), []) else none
  | .nilFunc => some (.nil, [])
  | _ => none
theorem fnElem_func {v : Value} {n : Nat} {ps : List MemPlace} (h : fnElem v = some (.lit (.int .i64 (n : Int)), ps)) : v = .func (.func n) #[] #[] := by
  unfold fnElem at h
  split at h
  · split at h
    · rename_i m a b hs
      have h1 := congrArg Prod.fst (Option.some.inj h)
      injection h1 with h2
      injection h2 with h3 h4
      have hm : m = n := Int.ofNat_inj.1 h4
      subst hm
      rw [Array.eq_empty_of_size_eq_zero hs.1, Array.eq_empty_of_size_eq_zero hs.2]
    · cases h
  · simp at h
  · cases h
theorem fnElem_nil {v : Value} {ps : List MemPlace} (h : fnElem v = some (.nil, ps)) : v = .nilFunc := by
  unfold fnElem at h
  split at h
  · split at h
    · simp at h
    · cases h
  · rfl
  · cases h
theorem actLaw : Keyed Tryd.prog 9 := string_keyed Tryd.underlying9
theorem actZero (w : World) : (zeroValue 45).run Tryd.prog w = .ok .nilFunc w := by kernel_rfl
/-- an entry laid into a map that the call has made, where a literal is built -/
theorem wpList_insert_own {H : Type} {P : Program} (w : World) {ops : Array Oper} {rest : List Oper} {o : Oper} {a : Act} {Q : Exit → Act → World → Prop}
    (hg : o.guard = none) (m x v : Operand) (t : TypeId) (hop : o.op = Op.insert t m x v)
    (k e : TypeId) (K : Keyed P k) (ht : P.underlying t = some (.map k e)) (R : Value → Option (DataW H × List MemPlace)) (b n : Nat) (D : DataW H)
    (hm : a.eval m = .map (some b)) (hown : w.ownsMap P k R b n D) (hn : n < maxLen) (key val : Value) (kl : Lit) (hx : a.eval x = key) (hv : a.eval v = val) (hkey : keyOf P k key = some kl)
    (d : DataW H) (ps : List MemPlace) (hval : R val = some (d, ps))
    (hK : ∀ w', w'.ownsMap P k R b (n + 1) (D.put kl d) → w.grownBy w' (some b) → wpList P ops Q rest (a.put o.dst undef) w') :
    wpList P ops Q (o :: rest) a w := by
  refine wpList_plain hg fun K' hK' => ?_
  obtain ⟨w', hrun, r1, r2⟩ := hown.update K ht hn hkey hval
  unfold Oper.wp
  simp [execOp, hop, hm, hx, hv, hrun, Result.andThen]
  exact hK' _ _ (hK w' r1 r2)

/-- the table that reckons makes; what it holds of an op -/
def tabReckons : DataW Unit := (((((.map [] : DataW Unit).put (.string [43]) (.lit (.int .i64 34))).put (.string [45]) (.lit (.int .i64 42))).put (.string [42]) (.lit (.int .i64 44))).put (.string [47]) (.lit (.int .i64 46)))
def opReckons (l : List UInt8) : Option Nat :=
  if l = [43] then some 34 else if l = [45] then some 42 else if l = [42] then some 44 else if l = [47] then some 46 else none
theorem atReckons_none (l : List UInt8) (h0 : l ≠ [43]) (h1 : l ≠ [45]) (h2 : l ≠ [42]) (h3 : l ≠ [47]) : tabReckons.atKey (.string l) .nil = .nil ∧ has tabReckons (.string l) = false := by
  unfold tabReckons
  constructor
  · rw [atKey_put_other (fun e => h3 (by injection e) : (Lit.string l) ≠ .string [47]), atKey_put_other (fun e => h2 (by injection e) : (Lit.string l) ≠ .string [42]), atKey_put_other (fun e => h1 (by injection e) : (Lit.string l) ≠ .string [45]), atKey_put_other (fun e => h0 (by injection e) : (Lit.string l) ≠ .string [43])]
    rfl
  · rw [has_put_other (fun e => h3 (by injection e) : (Lit.string l) ≠ .string [47]), has_put_other (fun e => h2 (by injection e) : (Lit.string l) ≠ .string [42]), has_put_other (fun e => h1 (by injection e) : (Lit.string l) ≠ .string [45]), has_put_other (fun e => h0 (by injection e) : (Lit.string l) ≠ .string [43])]
    rfl
/-- the table's answer: the function's number, or nil; and whether there is one -/
theorem atReckons (l : List UInt8) : tabReckons.atKey (.string l) .nil = (match opReckons l with | some n => .lit (.int .i64 (n : Int)) | none => .nil) ∧ has tabReckons (.string l) = (opReckons l).isSome := by
  by_cases h0 : l = [43]
  · subst h0; exact ⟨rfl, rfl⟩
  by_cases h1 : l = [45]
  · subst h1; exact ⟨rfl, rfl⟩
  by_cases h2 : l = [42]
  · subst h2; exact ⟨rfl, rfl⟩
  by_cases h3 : l = [47]
  · subst h3; exact ⟨rfl, rfl⟩
  obtain ⟨a1, a2⟩ := atReckons_none l h0 h1 h2 h3
  have e : opReckons l = none := by unfold opReckons; simp only [h0, h1, h2, h3, if_false]
  rw [a1, a2, e]
  exact ⟨rfl, rfl⟩
/-- the function value that reckons answers -/
def fnReckons (l : List UInt8) : Value := match opReckons l with | some n => .func (.func n) #[] #[] | none => .nilFunc
theorem fnReckons_is {v : Value} {ps : List MemPlace} {l : List UInt8} (h : fnElem v = some (tabReckons.atKey (.string l) .nil, ps)) : v = fnReckons l := by
  rw [(atReckons l).1] at h
  unfold fnReckons
  cases ho : opReckons l with
  | none => rw [ho] at h; exact fnElem_nil h
  | some n => rw [ho] at h; exact fnElem_func h
set_option maxHeartbeats 1000000 in
set_option maxRecDepth 10000 in
theorem ureckons_any (s : ByteArray) (hs : s.size ≤ maxLen) (w : World) :
    Calls Tryd.prog 24 #[.string s] w fun e w' => e = .returned (.tuple #[fnReckons s.data.toList, .bool (opReckons s.data.toList).isSome]) ∧ Below w.heap.size w w' := by
  have hmm := @run_makeMap Tryd.prog
  have hmf : ∀ (fn : Fn) (first cap : Array Value) (w : World), (Instr.makeFunc fn first cap).run Tryd.prog w = .ok (.func fn first cap) w := fun _ _ _ _ => rfl
  have hkey := WideMaps.keyOf_string_mk (P := Tryd.prog) Tryd.underlying9 hs
  have hk0 : keyOf Tryd.prog 9 (.string ⟨#[43]⟩) = some (.string [43]) := WideMaps.keyOf_string_mk (P := Tryd.prog) Tryd.underlying9 (by show [43].length ≤ maxLen; unfold maxLen; decide)
  have hk1 : keyOf Tryd.prog 9 (.string ⟨#[45]⟩) = some (.string [45]) := WideMaps.keyOf_string_mk (P := Tryd.prog) Tryd.underlying9 (by show [45].length ≤ maxLen; unfold maxLen; decide)
  have hk2 : keyOf Tryd.prog 9 (.string ⟨#[42]⟩) = some (.string [42]) := WideMaps.keyOf_string_mk (P := Tryd.prog) Tryd.underlying9 (by show [42].length ≤ maxLen; unfold maxLen; decide)
  have hk3 : keyOf Tryd.prog 9 (.string ⟨#[47]⟩) = some (.string [47]) := WideMaps.keyOf_string_mk (P := Tryd.prog) Tryd.underlying9 (by show [47].length ≤ maxLen; unfold maxLen; decide)
  have hown0 := World.ownsMap_made w Tryd.prog 9 fnElem
  have hb0 : Below w.heap.size w (w.alloc (.map #[] 0)) := (Below.refl _ _).alloc (Nat.le_refl _) _
  go_enter Tryd.func24, Tryd.ntmps24
  go_wp2_with (first
    | (refine wpList_insert_own _ rfl _ (.const (.string ⟨#[43]⟩)) (.func 34) 64 rfl 9 45 actLaw Tryd.underlying64 fnElem w.heap.size 0 _ rfl hown0 (by unfold maxLen; decide) _ _ _ rfl rfl hk0 (.lit (.int .i64 34)) [] rfl ?_; intro w1 hown1 hg1; have hb1 := hb0.grown hg1 hb0.size (fun j hj => by cases hj; exact Nat.le_refl _))
    | (refine wpList_insert_own _ rfl _ (.const (.string ⟨#[45]⟩)) (.func 42) 64 rfl 9 45 actLaw Tryd.underlying64 fnElem w.heap.size 1 _ rfl hown1 (by unfold maxLen; decide) _ _ _ rfl rfl hk1 (.lit (.int .i64 42)) [] rfl ?_; intro w2 hown2 hg2; have hb2 := hb1.grown hg2 hb1.size (fun j hj => by cases hj; exact Nat.le_refl _))
    | (refine wpList_insert_own _ rfl _ (.const (.string ⟨#[42]⟩)) (.func 44) 64 rfl 9 45 actLaw Tryd.underlying64 fnElem w.heap.size 2 _ rfl hown2 (by unfold maxLen; decide) _ _ _ rfl rfl hk2 (.lit (.int .i64 44)) [] rfl ?_; intro w3 hown3 hg3; have hb3 := hb2.grown hg3 hb2.size (fun j hj => by cases hj; exact Nat.le_refl _))
    | (refine wpList_insert_own _ rfl _ (.const (.string ⟨#[47]⟩)) (.func 46) 64 rfl 9 45 actLaw Tryd.underlying64 fnElem w.heap.size 3 _ rfl hown3 (by unfold maxLen; decide) _ _ _ rfl rfl hk3 (.lit (.int .i64 46)) [] rfl ?_; intro w4 hown4 hg4; have hb4 := hb3.grown hg4 hb3.size (fun j hj => by cases hj; exact Nat.le_refl _))
    | (refine wpList_lookup_own_ok _ rfl _ _ 64 rfl 9 45 actLaw Tryd.underlying64 fnElem (actZero _) .nil [] rfl w.heap.size 4 tabReckons rfl hown4 _ _ rfl hkey ?_; intro v ps hv; have hv2 := fnReckons_is hv; subst hv2; rw [(atReckons _).2])
    | fail)
  go_ret2
  exact ⟨rfl, hb4⟩

/-- the table that compares makes; what it holds of an op -/
def tabCompares : DataW Unit := (((((((.map [] : DataW Unit).put (.string [60]) (.lit (.int .i64 48))).put (.string [60, 61]) (.lit (.int .i64 50))).put (.string [61]) (.lit (.int .i64 51))).put (.string [60, 62]) (.lit (.int .i64 52))).put (.string [62, 61]) (.lit (.int .i64 53))).put (.string [62]) (.lit (.int .i64 54)))
def opCompares (l : List UInt8) : Option Nat :=
  if l = [60] then some 48 else if l = [60, 61] then some 50 else if l = [61] then some 51 else if l = [60, 62] then some 52 else if l = [62, 61] then some 53 else if l = [62] then some 54 else none
theorem atCompares_none (l : List UInt8) (h0 : l ≠ [60]) (h1 : l ≠ [60, 61]) (h2 : l ≠ [61]) (h3 : l ≠ [60, 62]) (h4 : l ≠ [62, 61]) (h5 : l ≠ [62]) : tabCompares.atKey (.string l) .nil = .nil ∧ has tabCompares (.string l) = false := by
  unfold tabCompares
  constructor
  · rw [atKey_put_other (fun e => h5 (by injection e) : (Lit.string l) ≠ .string [62]), atKey_put_other (fun e => h4 (by injection e) : (Lit.string l) ≠ .string [62, 61]), atKey_put_other (fun e => h3 (by injection e) : (Lit.string l) ≠ .string [60, 62]), atKey_put_other (fun e => h2 (by injection e) : (Lit.string l) ≠ .string [61]), atKey_put_other (fun e => h1 (by injection e) : (Lit.string l) ≠ .string [60, 61]), atKey_put_other (fun e => h0 (by injection e) : (Lit.string l) ≠ .string [60])]
    rfl
  · rw [has_put_other (fun e => h5 (by injection e) : (Lit.string l) ≠ .string [62]), has_put_other (fun e => h4 (by injection e) : (Lit.string l) ≠ .string [62, 61]), has_put_other (fun e => h3 (by injection e) : (Lit.string l) ≠ .string [60, 62]), has_put_other (fun e => h2 (by injection e) : (Lit.string l) ≠ .string [61]), has_put_other (fun e => h1 (by injection e) : (Lit.string l) ≠ .string [60, 61]), has_put_other (fun e => h0 (by injection e) : (Lit.string l) ≠ .string [60])]
    rfl
/-- the table's answer: the function's number, or nil; and whether there is one -/
theorem atCompares (l : List UInt8) : tabCompares.atKey (.string l) .nil = (match opCompares l with | some n => .lit (.int .i64 (n : Int)) | none => .nil) ∧ has tabCompares (.string l) = (opCompares l).isSome := by
  by_cases h0 : l = [60]
  · subst h0; exact ⟨rfl, rfl⟩
  by_cases h1 : l = [60, 61]
  · subst h1; exact ⟨rfl, rfl⟩
  by_cases h2 : l = [61]
  · subst h2; exact ⟨rfl, rfl⟩
  by_cases h3 : l = [60, 62]
  · subst h3; exact ⟨rfl, rfl⟩
  by_cases h4 : l = [62, 61]
  · subst h4; exact ⟨rfl, rfl⟩
  by_cases h5 : l = [62]
  · subst h5; exact ⟨rfl, rfl⟩
  obtain ⟨a1, a2⟩ := atCompares_none l h0 h1 h2 h3 h4 h5
  have e : opCompares l = none := by unfold opCompares; simp only [h0, h1, h2, h3, h4, h5, if_false]
  rw [a1, a2, e]
  exact ⟨rfl, rfl⟩
/-- the function value that compares answers -/
def fnCompares (l : List UInt8) : Value := match opCompares l with | some n => .func (.func n) #[] #[] | none => .nilFunc
theorem fnCompares_is {v : Value} {ps : List MemPlace} {l : List UInt8} (h : fnElem v = some (tabCompares.atKey (.string l) .nil, ps)) : v = fnCompares l := by
  rw [(atCompares l).1] at h
  unfold fnCompares
  cases ho : opCompares l with
  | none => rw [ho] at h; exact fnElem_nil h
  | some n => rw [ho] at h; exact fnElem_func h
set_option maxHeartbeats 1000000 in
set_option maxRecDepth 10000 in
theorem ucompares_any (s : ByteArray) (hs : s.size ≤ maxLen) (w : World) :
    Calls Tryd.prog 25 #[.string s] w fun e w' => e = .returned (.tuple #[fnCompares s.data.toList, .bool (opCompares s.data.toList).isSome]) ∧ Below w.heap.size w w' := by
  have hmm := @run_makeMap Tryd.prog
  have hmf : ∀ (fn : Fn) (first cap : Array Value) (w : World), (Instr.makeFunc fn first cap).run Tryd.prog w = .ok (.func fn first cap) w := fun _ _ _ _ => rfl
  have hkey := WideMaps.keyOf_string_mk (P := Tryd.prog) Tryd.underlying9 hs
  have hk0 : keyOf Tryd.prog 9 (.string ⟨#[60]⟩) = some (.string [60]) := WideMaps.keyOf_string_mk (P := Tryd.prog) Tryd.underlying9 (by show [60].length ≤ maxLen; unfold maxLen; decide)
  have hk1 : keyOf Tryd.prog 9 (.string ⟨#[60, 61]⟩) = some (.string [60, 61]) := WideMaps.keyOf_string_mk (P := Tryd.prog) Tryd.underlying9 (by show [60, 61].length ≤ maxLen; unfold maxLen; decide)
  have hk2 : keyOf Tryd.prog 9 (.string ⟨#[61]⟩) = some (.string [61]) := WideMaps.keyOf_string_mk (P := Tryd.prog) Tryd.underlying9 (by show [61].length ≤ maxLen; unfold maxLen; decide)
  have hk3 : keyOf Tryd.prog 9 (.string ⟨#[60, 62]⟩) = some (.string [60, 62]) := WideMaps.keyOf_string_mk (P := Tryd.prog) Tryd.underlying9 (by show [60, 62].length ≤ maxLen; unfold maxLen; decide)
  have hk4 : keyOf Tryd.prog 9 (.string ⟨#[62, 61]⟩) = some (.string [62, 61]) := WideMaps.keyOf_string_mk (P := Tryd.prog) Tryd.underlying9 (by show [62, 61].length ≤ maxLen; unfold maxLen; decide)
  have hk5 : keyOf Tryd.prog 9 (.string ⟨#[62]⟩) = some (.string [62]) := WideMaps.keyOf_string_mk (P := Tryd.prog) Tryd.underlying9 (by show [62].length ≤ maxLen; unfold maxLen; decide)
  have hown0 := World.ownsMap_made w Tryd.prog 9 fnElem
  have hb0 : Below w.heap.size w (w.alloc (.map #[] 0)) := (Below.refl _ _).alloc (Nat.le_refl _) _
  go_enter Tryd.func25, Tryd.ntmps25
  go_wp2_with (first
    | (refine wpList_insert_own _ rfl _ (.const (.string ⟨#[60]⟩)) (.func 48) 64 rfl 9 45 actLaw Tryd.underlying64 fnElem w.heap.size 0 _ rfl hown0 (by unfold maxLen; decide) _ _ _ rfl rfl hk0 (.lit (.int .i64 48)) [] rfl ?_; intro w1 hown1 hg1; have hb1 := hb0.grown hg1 hb0.size (fun j hj => by cases hj; exact Nat.le_refl _))
    | (refine wpList_insert_own _ rfl _ (.const (.string ⟨#[60, 61]⟩)) (.func 50) 64 rfl 9 45 actLaw Tryd.underlying64 fnElem w.heap.size 1 _ rfl hown1 (by unfold maxLen; decide) _ _ _ rfl rfl hk1 (.lit (.int .i64 50)) [] rfl ?_; intro w2 hown2 hg2; have hb2 := hb1.grown hg2 hb1.size (fun j hj => by cases hj; exact Nat.le_refl _))
    | (refine wpList_insert_own _ rfl _ (.const (.string ⟨#[61]⟩)) (.func 51) 64 rfl 9 45 actLaw Tryd.underlying64 fnElem w.heap.size 2 _ rfl hown2 (by unfold maxLen; decide) _ _ _ rfl rfl hk2 (.lit (.int .i64 51)) [] rfl ?_; intro w3 hown3 hg3; have hb3 := hb2.grown hg3 hb2.size (fun j hj => by cases hj; exact Nat.le_refl _))
    | (refine wpList_insert_own _ rfl _ (.const (.string ⟨#[60, 62]⟩)) (.func 52) 64 rfl 9 45 actLaw Tryd.underlying64 fnElem w.heap.size 3 _ rfl hown3 (by unfold maxLen; decide) _ _ _ rfl rfl hk3 (.lit (.int .i64 52)) [] rfl ?_; intro w4 hown4 hg4; have hb4 := hb3.grown hg4 hb3.size (fun j hj => by cases hj; exact Nat.le_refl _))
    | (refine wpList_insert_own _ rfl _ (.const (.string ⟨#[62, 61]⟩)) (.func 53) 64 rfl 9 45 actLaw Tryd.underlying64 fnElem w.heap.size 4 _ rfl hown4 (by unfold maxLen; decide) _ _ _ rfl rfl hk4 (.lit (.int .i64 53)) [] rfl ?_; intro w5 hown5 hg5; have hb5 := hb4.grown hg5 hb4.size (fun j hj => by cases hj; exact Nat.le_refl _))
    | (refine wpList_insert_own _ rfl _ (.const (.string ⟨#[62]⟩)) (.func 54) 64 rfl 9 45 actLaw Tryd.underlying64 fnElem w.heap.size 5 _ rfl hown5 (by unfold maxLen; decide) _ _ _ rfl rfl hk5 (.lit (.int .i64 54)) [] rfl ?_; intro w6 hown6 hg6; have hb6 := hb5.grown hg6 hb5.size (fun j hj => by cases hj; exact Nat.le_refl _))
    | (refine wpList_lookup_own_ok _ rfl _ _ 64 rfl 9 45 actLaw Tryd.underlying64 fnElem (actZero _) .nil [] rfl w.heap.size 6 tabCompares rfl hown6 _ _ rfl hkey ?_; intro v ps hv; have hv2 := fnCompares_is hv; subst hv2; rw [(atCompares _).2])
    | fail)
  go_ret2
  exact ⟨rfl, hb6⟩

end Go.Proofs.YtpnmefkbfonhpaaDoor
