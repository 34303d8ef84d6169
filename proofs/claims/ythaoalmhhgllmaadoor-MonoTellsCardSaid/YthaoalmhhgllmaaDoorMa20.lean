/- Texts joined: MoH, MoI, MoJ, MoD, MoE. -/
import Derived.Test.YthaoalmhhgllmaaDoorMa19
import Derived.Test.YthaoalmhhgllmaaDoorMa07
import Derived.Maps.OwnSet
import Derived.DeepKeys4
import Derived.Shelf.Abstract
import Derived.Shelf.RegionOpen
import Derived.OwnWalkIn
import Derived.TacticsInMore
import Derived.LoopNIn
import Derived.LoopIn
import Derived.Test.YthaoalmhhgllmaaDoorMa06
import Derived.Test.YthaoalmhhgllmaaDoorMa08
set_option linter.all false
namespace Go.Proofs.YthaoalmhhgllmaaDoor
open Go.RowKit Go.Maps Go.Deep
theorem placeKeyed : Keyed Tryd.prog 24 := Keyed.of_law (deep_law_laid laidOutT (m := 2) (by omega) (of_decide_eq_true (by kernel_rfl)) (by kernel_rfl) (by rw [Tryd.underlying24]))
def kP (x y : Int) : Lit := .string (keyBytes [.int .i64 x, .int .i64 y])
theorem wf64 {x : Int} (h : B64 x) : (Lit.int .i64 x).wf = true := by
  have e1 : IntKind.i64.min = -9223372036854775808 := rfl
  have e2 : IntKind.i64.max = 9223372036854775807 := rfl
  unfold B64 at h
  simp [Lit.wf, e1, e2]
  omega
set_option maxRecDepth 100000 in
theorem key_of {x y : Int} (hx : B64 x) (hy : B64 y) : keyOf Tryd.prog 24 (.agg #[.int .i64 x, .int .i64 y]) = some (kP x y) := by
  have h1 : Tryd.prog.keyType 24 = true := by kernel_rfl
  have h2 : (Value.agg #[.int .i64 x, .int .i64 y]).formed Tryd.prog 24 = true := by
    simp [Value.formed, Tryd.underlying24, cells_place]
  obtain ⟨d, hd⟩ : ∃ d, Tryd.prog.types.size = d + 1 := ⟨Tryd.prog.types.size - 1, by kernel_rfl⟩
  have h3 : Tryd.prog.keyLits (Tryd.prog.types.size + 1) 24 [.int .i64 x, .int .i64 y] = some [.int .i64 x, .int .i64 y] := by
    rw [hd]
    simp [Program.keyLits, Tryd.underlying24, Tryd.underlying3, cells_place, cells_int, wf64 hx, wf64 hy]
  unfold keyOf
  rw [Tryd.underlying24]
  simp only [h1, h2, Bool.and_self, if_true]
  show (Tryd.prog.keyLits (Tryd.prog.types.size + 1) 24 [.int .i64 x, .int .i64 y]).map _ = _
  rw [h3]; rfl
theorem kP_inj {x y p q : Int} (hx : B64 x) (hy : B64 y) (hp : B64 p) (hq : B64 q) (h : kP x y = kP p q) : x = p ∧ y = q := by
  have h1 := key_of hx hy
  rw [h] at h1
  have := placeKeyed.inj h1 (key_of hp hq)
  simpa using this
def litW (n : Int) : DataW Unit := .lit (.int .i64 n)
def wayElem (v : Value) : Option (DataW Unit × List MemPlace) := match v with
  | .int .i64 n => some (litW n, [])
  | _ => none
theorem wayElem_mk (n : Int) : wayElem (.int .i64 n) = some (litW n, []) := rfl
theorem wayElem_inv {v : Value} {n : Int} {ps : List MemPlace} (h : wayElem v = some (litW n, ps)) : v = .int .i64 n := by
  unfold wayElem at h
  split at h
  · unfold litW at h
    simp only [Option.some.injEq, Prod.mk.injEq, DataW.lit.injEq, Lit.int.injEq, true_and] at h
    rw [h.1]
  · cases h
theorem wayZero (w : World) : (zeroValue 31).run Tryd.prog w = .ok (.int .i64 0) w := by kernel_rfl
def wR (x y : Int) : List Kno → Int
  | [] => 0
  | k :: l => if k.c = x ∧ k.r = y then k.w else wR x y l
theorem clean_wR (x y : Int) : ∀ l, cleanW (wR x y l) = wAt x y l
  | [] => rfl
  | k :: l => by
    rw [wR, wAt]
    by_cases h : k.c = x ∧ k.r = y
    · rw [if_pos h, if_pos h]
    · rw [if_neg h, if_neg h]; exact clean_wR x y l
def MapW (w : World) (b : Nat) (l : List Kno) : Prop := ∃ (n : Nat) (D : DataW Unit), n ≤ l.length ∧ w.ownsMap Tryd.prog 24 wayElem b n D ∧ ∀ x y, B64 x → B64 y → D.atKey (kP x y) (litW 0) = litW (wR x y l)
theorem MapW.below {w w' : World} {b : Nat} {l : List Kno} (h : MapW w b l) (hb : Below w.heap.size w w') : MapW w' b l := by
  obtain ⟨n, D, h1, h2, h3⟩ := h
  exact ⟨n, D, h1, h2.kept (grown_of_below hb none) (by simp), h3⟩
theorem MapW.lt {w : World} {b : Nat} {l : List Kno} (h : MapW w b l) : b < w.heap.size := by
  obtain ⟨n, D, h1, h2, h3⟩ := h
  exact h2.lt
theorem MapW.made (w : World) : MapW (w.alloc (.map #[] 0)) w.heap.size [] := ⟨0, .map [], Nat.le_refl _, World.ownsMap_made w Tryd.prog 24 wayElem, fun _ _ _ _ => rfl⟩
theorem MapW.put {w : World} {b : Nat} {l : List Kno} {q : Kno} (hM : MapW w b l) (hl : l.length < maxLen) (hb : B64 q.c ∧ B64 q.r) :
    ∃ w', (Instr.mapUpdate 62 (.map (some b)) (.agg #[.int .i64 q.c, .int .i64 q.r]) (.int .i64 q.w)).run Tryd.prog w = .ok () w' ∧ MapW w' b (q :: l) ∧ w.grownBy w' (some b) := by
  obtain ⟨k, D, hkl, hown, hD⟩ := hM
  obtain ⟨w', hrun, r1, r2⟩ := hown.update placeKeyed Tryd.underlying62 (by omega) (key_of hb.1 hb.2) (wayElem_mk q.w)
  refine ⟨w', hrun, ⟨k + 1, _, by simp; omega, r1, fun x y hx hy => ?_⟩, r2⟩
  rw [wR]
  by_cases hp : q.c = x ∧ q.r = y
  · obtain ⟨rfl, rfl⟩ := hp
    rw [if_pos ⟨rfl, rfl⟩, atKey_put_same hown.isMap (placeKeyed.key (key_of hb.1 hb.2))]
  · have hne : kP x y ≠ kP q.c q.r := fun e => by
      obtain ⟨e1, e2⟩ := kP_inj hx hy hb.1 hb.2 e
      exact hp ⟨e1.symm, e2.symm⟩
    rw [if_neg hp, atKey_put_other hne]
    exact hD x y hx hy
section
variable (w : World) {ops : Array Oper} {rest : List Oper} {o : Oper} {a : Act} {Q : Exit → Act → World → Prop}
theorem wpList_ways (hg : o.guard = none) (m x : Operand) (hop : o.op = Op.lookup 62 m x false) {b : Nat} {l : List Kno} (hm : a.eval m = .map (some b)) (hM : MapW w b l) {p q n : Int} (hp : B64 p) (hq : B64 q)
    (hx : a.eval x = .agg #[.int .i64 p, .int .i64 q]) (h1 : wR p q l = n)
    (hK : wpList Tryd.prog ops Q rest (a.put o.dst (.int .i64 n)) w) : wpList Tryd.prog ops Q (o :: rest) a w := by
  obtain ⟨k, D, _, hown, hD⟩ := hM
  have e1 := hD p q hp hq
  refine wpList_plain hg fun K' hK' => ?_
  obtain ⟨v, ps, hrun, hv⟩ := hown.lookup placeKeyed Tryd.underlying62 (wayZero w) (zd := litW 0) (zp := []) rfl (key_of hp hq)
  rw [e1] at hv
  have := wayElem_inv hv
  subst this
  rw [h1] at hrun
  unfold Oper.wp
  simp [execOp, hop, hm, hx, hrun, Result.andThen]
  exact hK' _ _ hK
end
end Go.Proofs.YthaoalmhhgllmaaDoor
namespace Go.Proofs.YthaoalmhhgllmaaDoor
open Go.RowKit Go.Shelf
attribute [local go_sem] Oper.semAt_some
theorem vint {a b : Int} (h : a = b) : Value.int .i64 a = .int .i64 b := by rw [h]
def encK (q : Kno) (args : Array Value) : Prop := ∃ i : Int, args = #[.int .i64 i, .agg #[.int .i64 q.c, .int .i64 q.r, .int .i64 q.w]]
set_option maxHeartbeats 4000000 in
set_option maxRecDepth 100000 in
theorem back_yields {l : List Kno} (hl : l.length ≤ maxLen) {w : World} {Bs : Nat} {A : Option Addr} {cap : Nat} (hB : w.cell? ⟨Bs, 0, none⟩ = some (.slice A l.length cap)) (hc : ListK w A l) :
    Yields Tryd.prog 50 #[.pointer (some ⟨Bs, 0, none⟩)] l.reverse encK (fun k => k = Bs ∨ l ≠ [] ∧ ∃ o, A = some ⟨k, o, none⟩) w := by
  intro L C J Jx W hb hC hJ hJx hY h0
  show Calls Tryd.prog 50 #[.func (.yield L) #[] #[], .pointer (some ⟨Bs, 0, none⟩)] W _
  have hBW : W.cell? ⟨Bs, 0, none⟩ = some (.slice A l.length cap) := keep_cell hb hB
  have HC := Lib.hid (hc.below hb)
  have hnB : ¬ C Bs := fun h => (hC Bs h).2 (.inl rfl)
  unfold maxLen at hl
  clear hB hc
  refine (callsIn_wide (n := 9)).1 (callsIn_of_wp Tryd.func50 rfl trivial ?_ rfl)
  simp only [Tryd.ntmps50, List.size_toArray, List.length_cons, List.length_nil, Nat.reduceAdd, Nat.reduceSub, Array.replicate_succ, Array.replicate_zero, List.push_toArray, List.append_toArray, List.nil_append, List.cons_append]
  gi_wp2
  gi_loopw [3] (fun n wr => ∃ k : Nat, k ≤ l.length ∧ n = .int .i64 ((l.length : Int) - 1 - (k : Int)) ∧ Sav C W wr ∧ J k wr) (fun n _ => (intOf n + 1).toNat)
  case atStart => exact ⟨0, Nat.zero_le _, vint (by omega), Sav.refl _ _, h0⟩
  case round =>
    obtain ⟨k, hk, rfl, hs, hj⟩ := hrel
    have hbs : wr.cell? ⟨Bs, 0, none⟩ = some (.slice A l.length cap) := hs.cell hnB hBW
    by_cases hlt : k < l.length
    · obtain ⟨m, hm⟩ : ∃ m : Nat, l.length = m + 1 + k := ⟨l.length - 1 - k, by omega⟩
      obtain ⟨q, hq⟩ : ∃ q, l[m]? = some q := ⟨_, List.getElem?_eq_getElem (by omega)⟩
      have hx : l.reverse[k]? = some q := by rw [List.getElem?_reverse hlt, show l.length - 1 - k = m from by omega]; exact hq
      have hne : l ≠ [] := by rintro rfl; simp at hlt
      obtain ⟨g, o, rfl, hat⟩ := HC.out hne
      have hng : ¬ C g := fun h => (hC g h).2 (.inr ⟨hne, o, rfl⟩)
      have c0 : wr.cell? ⟨g, o + m * 3, none⟩ = some (.int .i64 q.c) := hs.cell hng (hat m q hq 0 _ rfl)
      have c1 : wr.cell? ⟨g, o + m * 3 + 1, none⟩ = some (.int .i64 q.r) := hs.cell hng (hat m q hq 1 _ rfl)
      have c2 : wr.cell? ⟨g, o + m * 3 + 2, none⟩ = some (.int .i64 q.w) := hs.cell hng (hat m q hq 2 _ rfl)
      have em : (l.length : Int) - 1 - (k : Int) = (m : Int) := by omega
      rw [em]
      obtain ⟨fn, tmps, assign, bd, hy, hR⟩ := hY 8 k q _ wr hx ⟨(m : Int), rfl⟩ hs hj
      have HN : Hid ((m : Int) - 1 = (l.length : Int) - 1 - ((k + 1 : Nat) : Int)) := Lib.hid (by omega)
      have ml : m < l.length := by omega
      clear hat hq hx em hm
      gi_wp2
      refine RoundIn.mono hR ?_
      rintro e V2 ⟨hs2, ⟨rfl, hj2⟩ | ⟨rfl, hx2⟩⟩
      · have hs3 := hs.trans hs2
        clear hy hR c0 c1 c2
        gi_wp2
        go_roundw
        case rel => exact ⟨k + 1, by omega, vint (by first | exact HN.out | omega), hs3, hj2⟩
        case measure => simp [intOf]
      · have hs3 := hs.trans hs2
        gi_wp2
        refine bodyPost_ret (results_none rfl _ _ _) rfl ?_
        exact ⟨⟨_, rfl⟩, hs3, .inr hx2⟩
    · have hk2 : k = l.length := by omega
      subst hk2
      rw [show (l.length : Int) - 1 - (l.length : Int) = -1 from by omega]
      gi_wp2
      go_end0
      exact ⟨⟨_, rfl⟩, hs, .inl (by rw [List.length_reverse]; exact hj)⟩
end Go.Proofs.YthaoalmhhgllmaaDoor
namespace Go.Proofs.YthaoalmhhgllmaaDoor
open Go.RowKit Go.Shelf
attribute [local go_sem] Oper.semAt_some
theorem MapW.block {w w' : World} {b : Nat} {l : List Kno} (h : MapW w b l) (hb : w'.heap[b]? = w.heap[b]?) : MapW w' b l := by
  obtain ⟨n, D, h1, ⟨es, clock, h2, F, hs, hD⟩, h3⟩ := h
  exact ⟨n, D, h1, ⟨es, clock, hb.trans h2, F, hs, hD⟩, h3⟩
theorem drop_back {l : List Kno} {i : Nat} {q : Kno} (h : l.reverse[i]? = some q) : l.drop (l.length - (i + 1)) = q :: l.drop (l.length - i) := by
  have hi : i < l.length := by have := (List.getElem?_eq_some_iff.1 h).1; rwa [List.length_reverse] at this
  rw [List.getElem?_reverse hi] at h
  have hlt : l.length - (i + 1) < l.length := by omega
  rw [List.drop_eq_getElem_cons hlt]
  rw [show l.length - 1 - i = l.length - (i + 1) from by omega, List.getElem?_eq_getElem hlt] at h
  rw [Option.some.inj h, show l.length - (i + 1) + 1 = l.length - i from by omega]
set_option maxHeartbeats 2000000 in
set_option maxRecDepth 100000 in
theorem mback_any (A : Option Addr) (cap : Nat) (k : Nat) (w : World) :
    Calls Tryd.prog 34 #[.slice A k cap] w fun e w' => e = .returned (.func (.func 50) #[] #[.pointer (some ⟨w.heap.size, 0, none⟩)]) ∧ w' = w.alloc (.cells #[.slice A k cap] 30) := by
  go_enter Tryd.func34, Tryd.ntmps34
  go_wp2_with fail
  go_ret
  exact ⟨rfl, rfl⟩
def C3 (w : World) (B : Nat) (q : Kno) : Prop := w.cell? ⟨B, 0, none⟩ = some (.int .i64 q.c) ∧ w.cell? ⟨B, 1, none⟩ = some (.int .i64 q.r) ∧ w.cell? ⟨B, 2, none⟩ = some (.int .i64 q.w)
set_option maxHeartbeats 8000000 in
set_option maxRecDepth 100000 in
theorem mfirst_any (l : List Kno) (hl : l.length < maxLen) (hb : ∀ q ∈ l, B64 q.c ∧ B64 q.r) (A : Option Addr) (cap : Nat) (w : World) (hc : ListK w A l) :
    Calls Tryd.prog 20 #[.slice A l.length cap] w fun e w' => ∃ b, e = .returned (.map (some b)) ∧ MapW w' b l ∧ b < w'.heap.size ∧ Below w.heap.size w w' := by
  have HBk := Lib.hid (fun w => mback_any A cap l.length w)
  have hmm := @run_makeMap Tryd.prog
  refine (callsIn_wide (n := 9)).1 (callsIn_of_wp_marks Tryd.func20 rfl trivial ?_ rfl)
  simp only [Tryd.ntmps20, List.size_toArray, List.length_cons, List.length_nil, Nat.reduceAdd, Nat.reduceSub, Array.replicate_succ, Array.replicate_zero, List.push_toArray, List.append_toArray, List.nil_append, List.cons_append]
  gi_wp2
  refine ⟨trivial, ?_⟩
  refine (callsIn_wide.2 (HBk.out _)).mono ?_
  rintro e w1 ⟨rfl, rfl⟩
  clear HBk
  gi_wp2
  obtain ⟨W1, hW1⟩ : ∃ W1, (((w.alloc (.map #[] 0)).alloc (.cells #[.map (some w.heap.size)] 62)).alloc (.cells #[.slice A l.length cap] 30)) = W1 := ⟨_, rfl⟩
  have hbW : Below w.heap.size w W1 := by rw [← hW1]; exact (((Below.refl _ _).alloc (Nat.le_refl _) _).alloc (by simp) _).alloc (by simp; omega) _
  have hz1 : W1.heap.size = w.heap.size + 3 := by rw [← hW1]; simp
  have hk0 : W1.cell? ⟨w.heap.size + 1, 0, none⟩ = some (.map (some w.heap.size)) := by rw [← hW1]; simp [go_sem]
  have hs0 : W1.cell? ⟨w.heap.size + 1 + 1, 0, none⟩ = some (.slice A l.length cap) := by rw [← hW1]; simp [go_sem]
  have hm0 : MapW W1 w.heap.size [] := (MapW.made w).below (by rw [← hW1]; exact ((Below.refl _ _).alloc (Nat.le_refl _) _).alloc (by simp) _)
  rw [hW1]
  clear hW1
  have hcW := hc.below hbW
  have hlow : ∀ k, (l ≠ [] ∧ ∃ o, A = some ⟨k, o, none⟩) → k < w.heap.size := by
    rintro k ⟨hne, o, rfl⟩
    obtain ⟨g, o2, e, hat⟩ := hc hne
    cases e
    obtain ⟨q, hq⟩ : ∃ q, l[0]? = some q := ⟨_, List.getElem?_eq_getElem (List.length_pos_iff.2 hne)⟩
    exact Lib.lt_of_cell (hat 0 q hq 0 _ rfl)
  refine wp_range (gf := 50) (lb := #[.pointer (some ⟨w.heap.size + 1 + 1, 0, none⟩)]) rfl (enters_of Tryd.func50 (by kernel_rfl) rfl)
    (back_yields (Nat.le_of_lt hl) hs0 hcW) (Below.refl _ _) (fun x args h => by obtain ⟨i, rfl⟩ := h; rfl)
    (fun k => k = w.heap.size) (by rintro k rfl; exact ⟨by omega, by rintro (h | h); omega; have := hlow _ h; omega⟩) (by rintro k (rfl | h); omega; have := hlow _ h; omega)
    (fun i V => V.cell? ⟨w.heap.size + 1, 0, none⟩ = some (.map (some w.heap.size)) ∧ MapW V w.heap.size (l.drop (l.length - i))) (fun _ _ => False)
    (fun i A B hab ⟨h1, h2⟩ => ⟨(hab.cell (p := ⟨w.heap.size + 1, 0, none⟩) (by show w.heap.size + 1 < _; omega)).trans h1, h2.block (hab.block _ (by omega))⟩)
    (fun _ _ _ _ h => h) ⟨hk0, by rw [Nat.sub_zero, List.drop_length]; exact hm0⟩
    (fun q a' V => ∃ (Bx : Nat) (i : Int), W1.heap.size ≤ Bx ∧ C3 V Bx q ∧ a' = { tmps := #[.slice A l.length cap, undef, .map none, .pointer (some ⟨w.heap.size + 1, 0, none⟩), undef, .pointer (some ⟨Bx, 0, none⟩), .map (some w.heap.size), .slice A l.length cap, .func (.func 50) #[] #[.pointer (some ⟨w.heap.size + 1 + 1, 0, none⟩)], .int .i64 i, .agg #[.int .i64 q.c, .int .i64 q.r, .int .i64 q.w], undef, undef, undef, undef, undef, undef], defers := [] })
    (fun x a' V l' r o hl ⟨Bx, i, h1, h2, h3⟩ => ⟨Bx, i, h1, by
      have hne : Bx ≠ l' := by rintro rfl; have := h2.1; simp [World.cell?, hl] at this
      obtain ⟨c0, c1, c2⟩ := h2
      exact ⟨by rw [World.cell?_of_block (w := V) (putObj_other o hne)]; exact c0, by rw [World.cell?_of_block (w := V) (putObj_other o hne)]; exact c1, by rw [World.cell?_of_block (w := V) (putObj_other o hne)]; exact c2⟩, h3⟩)
    ?assign ?body ?done ?stop
  case assign =>
    rintro l' i x args V K hx ⟨ix, rfl⟩ hz hK
    gi_wp2
    exact hK _ _ ((Below.refl _ _).alloc (Nat.le_refl _) _) ⟨V.heap.size, ix, hz, ⟨by simp [go_sem], by simp [go_sem], by simp [go_sem]⟩, rfl⟩
  case body =>
    rintro l' i q a' V hx hsV ⟨hkV, hmV⟩ ⟨Bx, ix, hBx, ⟨c0, c1, c2⟩, rfl⟩
    have hq := hb q (List.mem_reverse.1 (List.mem_of_getElem? hx))
    obtain ⟨w4, hrun4, hM4, hg4⟩ := hmV.put (by rw [List.length_drop]; omega) hq
    rw [← drop_back hx] at hM4
    have hk4 : w4.cell? ⟨w.heap.size + 1, 0, none⟩ = some (.map (some w.heap.size)) := (hg4.cell_far ⟨w.heap.size + 1, 0, none⟩ (by have := hsV.size; show w.heap.size + 1 < _; omega) (fun e => by have := Option.some.inj e; have h2 : w.heap.size + 1 = w.heap.size := this; omega)).trans hkV
    have hs4 : Sav (fun k => k = w.heap.size) V w4 := ⟨hg4.os, hg4.tape, hg4.output, hg4.size, fun k hk hn => hg4.block k hk fun e => hn (Option.some.inj e)⟩
    clear hmV hg4 hx
    gi_wp2
    exact ⟨hs4, hk4, hM4⟩
  case done =>
    rintro D V hD hsV ⟨hkV, hmV⟩ hK
    rw [List.length_reverse, Nat.sub_self, List.drop_zero] at hmV
    gi_wp2
    refine ⟨by simp, .inl ⟨_, _, rfl, run_takeDeferred hK, ?_⟩⟩
    refine ⟨_, results_tmp rfl _ _ _, _, rfl, hmV.block (putObj_other _ (by omega)), by rw [World.putObj_size]; have := hsV.size; omega, ?_⟩
    exact hbW.trans ((hsV.putObj (.inr (by omega)) _).below (fun k hk h => by have h2 : k = w.heap.size := h; omega) (by omega))
  case stop =>
    rintro D c V hD hsV h hK
    exact h.elim
end Go.Proofs.YthaoalmhhgllmaaDoor
namespace Go.Proofs.YthaoalmhhgllmaaDoor
open Go.RowKit
theorem parT {w w1 : World} {v0 v1 v2 v3 v4 v5 v6 v7 : Value} (hb : Below (w.heap.size + 1) (w.alloc (.cells #[v0, v1, v2, v3, v4, v5, v6, v7] 29)) w1) :
    (w1.cell? ⟨w.heap.size, 0, none⟩ = some v0 ∧ w1.cell? ⟨w.heap.size, 1, none⟩ = some v1 ∧ w1.cell? ⟨w.heap.size, 2, none⟩ = some v2 ∧ w1.cell? ⟨w.heap.size, 3, none⟩ = some v3 ∧ w1.cell? ⟨w.heap.size, 4, none⟩ = some v4 ∧ w1.cell? ⟨w.heap.size, 5, none⟩ = some v5 ∧ w1.cell? ⟨w.heap.size, 6, none⟩ = some v6 ∧ w1.cell? ⟨w.heap.size, 7, none⟩ = some v7) ∧ w.heap.size < w1.heap.size ∧ Below w.heap.size w w1 := by
  have hs := hb.size
  simp at hs
  refine ⟨⟨?_, ?_, ?_, ?_, ?_, ?_, ?_, ?_⟩, by omega, ((Below.refl _ _).alloc (Nat.le_refl _) _).trans (hb.mono (by omega))⟩ <;> (rw [hb.cell (by simp)]; simp [go_sem])
def CstC (t : Tr) : Prop := ∀ (w : World) (P : Nat → Prop) (A : Option Addr) (cap : Nat), KV w P t A →
  Calls Tryd.prog 60 #[.agg #[.int .i64 t.kind, .int .i64 t.num, .int .i64 t.c1, .int .i64 t.r1, .int .i64 t.c2, .int .i64 t.r2, .string ⟨t.word.toArray⟩, .slice A t.kids.length cap]] w fun e w' => e = .returned (.tuple #[.int .i64 ((cstT t).getD 0), .bool (cstT t).isSome]) ∧ Below w.heap.size w w'
theorem ret_ib {a b : Int} {s u : Bool} (h : a = b) (k : s = u) : Ending.returned (.tuple #[.int .i64 a, .bool s]) = .returned (.tuple #[.int .i64 b, .bool u]) := by rw [h, k]
set_option maxHeartbeats 4000000 in
set_option maxRecDepth 10000 in
theorem cst_0 (t : Tr) (h : t.kind = 0) (hn : 0 ≤ t.num) : CstC t := by
  intro w P A cap _
  have HE : Hid (cstT t = some (min t.num 1)) := Lib.hid (by obtain ⟨k, n, c, r, d, s, wd, ks⟩ := t; rw [cstT]; exact if_pos h)
  have s0 : (t.kind == 0) = true := by rw [h]; rfl
  clear h
  go_enter Tryd.func60, Tryd.ntmps60
  go_wp2_with fail
  all_goals
    go_ret2
    exact ⟨ret_ib (by rw [HE.out]; first | rfl | (show _ = min _ _; omega) | (simp; omega)) (by rw [HE.out]; rfl), (Below.refl _ _).alloc (Nat.le_refl _) _⟩
set_option maxHeartbeats 4000000 in
set_option maxRecDepth 10000 in
theorem cst_no (t : Tr) (h0 : t.kind ≠ 0) (h3 : t.kind ≠ 3) : CstC t := by
  intro w P A cap _
  have HE : Hid (cstT t = none) := Lib.hid (by obtain ⟨k, n, c, r, d, s, wd, ks⟩ := t; rw [cstT]; rw [if_neg (show ¬ k = 0 from h0)]; exact if_neg h3)
  have s0 : (t.kind == 0) = false := by rw [beq_eq_false_iff_ne]; exact h0
  have s3 : (t.kind == 3) = false := by rw [beq_eq_false_iff_ne]; exact h3
  clear h0 h3
  go_enter Tryd.func60, Tryd.ntmps60
  go_wp2_with fail
  go_ret2
  exact ⟨ret_ib (by rw [HE.out]; rfl) (by rw [HE.out]; rfl), (Below.refl _ _).alloc (Nat.le_refl _) _⟩
theorem cst_b : ∀ (t : Tr) (s : Int), mayB t = true → cstT t = some s → -1 ≤ s ∧ s ≤ 1
  | .mk k n c r d s' w ks, s, hm, hs => by
    rw [cstT] at hs
    by_cases k0 : k = 0
    · subst k0
      rw [if_pos rfl] at hs
      rw [mayB, if_pos rfl] at hm
      have h0 : 0 ≤ n := of_decide_eq_true (Bool.and_eq_true _ _ ▸ hm).2
      injection hs with hs
      omega
    · rw [if_neg k0] at hs
      by_cases k3 : k = 3
      · subst k3
        rw [if_pos rfl] at hs
        match ks, hm, hs with
        | [], _, hs => rw [cstL] at hs; cases hs
        | u :: us, hm, hs =>
          rw [cstL] at hs
          cases hu : cstT u with
          | none => rw [hu] at hs; cases hs
          | some z =>
            rw [hu] at hs
            have hs : -z = s := Option.some.inj hs
            have := cst_b u z (may_kids hm u (List.mem_cons_self ..)) hu
            omega
      · rw [if_neg k3] at hs; cases hs
set_option maxHeartbeats 4000000 in
set_option maxRecDepth 10000 in
theorem cst_3 (t a : Tr) (hlen : t.kids.length ≤ 1000000) (h : t.kind = 3) (h0 : t.kids[0]? = some a) (hm : mayB a = true) (ih : CstC a) : CstC t := by
  intro w P A cap hk
  have HE : Hid (cstT t = (cstT a).map fun z => -z) := Lib.hid (by
    obtain ⟨k, n, c, r, d, s, wd, ks⟩ := t
    have e : k = 3 := h
    subst e
    match ks, h0 with
    | u :: us, h0 => simp [Tr.kids] at h0; subst h0; rw [cstT, if_neg (by decide), if_pos rfl, cstL])
  have hbd : -1 ≤ (cstT a).getD 0 ∧ (cstT a).getD 0 ≤ 1 := by
    cases hc : cstT a with
    | none => exact ⟨by decide, by decide⟩
    | some z => exact cst_b a z hm hc
  have s0 : (t.kind == 0) = false := by rw [h]; rfl
  have s3 : (t.kind == 3) = true := by rw [h]; rfl
  obtain ⟨g, o, rfl⟩ := hk.addr h0
  have HK := Lib.hid hk
  have Ha := Lib.hid h0
  have l0 : 0 < t.kids.length := (List.getElem?_eq_some_iff.1 h0).1
  have hb0 : Below (w.heap.size + 1) (w.alloc (.cells #[.int .i64 t.kind, .int .i64 t.num, .int .i64 t.c1, .int .i64 t.r1, .int .i64 t.c2, .int .i64 t.r2, .string ⟨t.word.toArray⟩, .slice (some ⟨g, o, none⟩) t.kids.length cap] 29)) (w.alloc (.cells #[.int .i64 t.kind, .int .i64 t.num, .int .i64 t.c1, .int .i64 t.r1, .int .i64 t.c2, .int .i64 t.r2, .string ⟨t.word.toArray⟩, .slice (some ⟨g, o, none⟩) t.kids.length cap] 29)) := Below.refl _ _
  obtain ⟨⟨k0, k1, k2, k3, k4, k5, k6, k7⟩, kz, kb⟩ := parT hb0
  obtain ⟨hga, Aa, ca, ⟨q0, q1, q2, q3, q4, q5, q6, q7⟩, hka⟩ := HK.out.kidAt kb Ha.out
  simp only [Nat.zero_mul, Nat.add_zero] at q0 q1 q2 q3 q4 q5 q6 q7
  have HC0 := Lib.hid (ih _ _ Aa ca hka)
  clear hk h h0 ih hka hga hm
  clear k0 k1 k2 k3 k4 k5 k6 k7
  have HX : Hid ((cstT t).getD 0 = -((cstT a).getD 0) ∧ (cstT t).isSome = (cstT a).isSome) := Lib.hid (by rw [HE.out]; cases cstT a <;> exact ⟨rfl, rfl⟩)
  generalize (cstT a).getD 0 = X at *
  generalize (cstT a).isSome = Y at *
  go_enter Tryd.func60, Tryd.ntmps60
  go_wp2_with fail
  refine Calls.mono HC0.out ?_; rintro e w1 ⟨rfl, b1⟩
  have hb1 := kb.trans (b1.mono (by simp))
  clear b1 q0 q1 q2 q3 q4 q5 q6 q7 kb kz hb0
  have hw : IntKind.i64.wrap (-X) = -X := IntWalk.i64_in _ (by omega)
  go_wp2_with fail
  go_ret2
  exact ⟨ret_ib HX.out.1.symm HX.out.2.symm, hb1⟩
theorem cst_any : ∀ {t : Tr}, Wid t → GE t → CstC t := by
  intro t hW
  induction hW with
  | @mk k n c r d s w ks hlw _ ih =>
    intro ge
    by_cases k0 : k = 0
    · subst k0
      have hm := ge.may
      rw [mayB, if_pos rfl] at hm
      exact cst_0 _ rfl (of_decide_eq_true (Bool.and_eq_true _ _ ▸ hm).2)
    · by_cases k3 : k = 3
      · obtain ⟨a, ha⟩ := kids_3 ge.may (show (Tr.mk k n c r d s w ks).kind = 3 from k3)
        have ha : ks = [a] := ha
        subst ha
        exact cst_3 _ a ge.len k3 rfl (ge.kid (List.mem_cons_self ..)).may (ih a (by simp) (ge.kid (List.mem_cons_self ..)))
      · exact cst_no _ k0 k3
set_option maxHeartbeats 4000000 in
set_option maxRecDepth 10000 in
theorem wby_any (x s : Int) (w : World) : Calls Tryd.prog 61 #[.int .i64 x, .int .i64 s] w fun e w' => e = .returned (.int .i64 (byW x s)) ∧ Below w.heap.size w w' := by
  by_cases h : s < 0
  · have d : decide (s < 0) = true := decide_eq_true h
    have HE : Hid (byW x s = flipW x) := Lib.hid (if_pos h)
    clear h
    go_enter Tryd.func61, Tryd.ntmps61
    go_wp2_with fail
    refine Calls.mono (wflip_any x _) ?_; rintro e w1 ⟨rfl, b1⟩
    go_wp2_with fail
    go_ret
    exact ⟨ret_int HE.out.symm, b1⟩
  · have d : decide (s < 0) = false := decide_eq_false h
    have HE : Hid (byW x s = x) := Lib.hid (if_neg h)
    clear h
    go_enter Tryd.func61, Tryd.ntmps61
    go_wp2_with fail
    go_ret
    exact ⟨ret_int HE.out.symm, Below.refl _ _⟩
end Go.Proofs.YthaoalmhhgllmaaDoor
namespace Go.Proofs.YthaoalmhhgllmaaDoor
open Go.RowKit
def WayC (l : List Kno) (t : Tr) : Prop := ∀ (w : World) (P : Nat → Prop) (A : Option Addr) (cap : Nat) (B : Option Addr) (lc : Nat), KV w P t A → ListK w B l →
  Calls Tryd.prog 23 #[.agg #[.int .i64 t.kind, .int .i64 t.num, .int .i64 t.c1, .int .i64 t.r1, .int .i64 t.c2, .int .i64 t.r2, .string ⟨t.word.toArray⟩, .slice A t.kids.length cap], .slice B l.length lc] w fun e w' => e = .returned (.int .i64 (wyT l t)) ∧ Below w.heap.size w w'
def OpC (l : List Kno) (t : Tr) (X : Int) : Prop := ∀ (w : World) (P : Nat → Prop) (A : Option Addr) (cap : Nat) (B : Option Addr) (lc : Nat), KV w P t A → ListK w B l →
  Calls Tryd.prog 40 #[.agg #[.int .i64 t.kind, .int .i64 t.num, .int .i64 t.c1, .int .i64 t.r1, .int .i64 t.c2, .int .i64 t.r2, .string ⟨t.word.toArray⟩, .slice A t.kids.length cap], .slice B l.length lc] w fun e w' => e = .returned (.int .i64 X) ∧ Below w.heap.size w w'
def opB (w : List UInt8) (a b M N : Int) (m n : Bool) : Int :=
  if w = [43] then joinW a b
  else if w = [45] ∨ w = [62] ∨ w = [62, 61] then joinW a (flipW b)
  else if w = [60] ∨ w = [60, 61] then flipW (joinW a (flipW b))
  else if w = [42] then (if n = true then byW a N else if m = true then byW b M else stW a b)
  else if w = [47] then (if n = true then (if N = 0 then stW a b else byW a N) else stW a b)
  else stW a b
theorem opW_B (w : List UInt8) (a b : Int) (p q : Option Int) : opW w a b p q = opB w a b (p.getD 0) (q.getD 0) p.isSome q.isSome := by
  unfold opW opB
  cases p <;> cases q <;> rfl
theorem opm_cases (w : List UInt8) : w = [43] ∨ w = [45] ∨ w = [62] ∨ w = [62, 61] ∨ w = [60] ∨ w = [60, 61] ∨ w = [42] ∨ w = [47] ∨ (w ≠ [43] ∧ w ≠ [45] ∧ w ≠ [62] ∧ w ≠ [62, 61] ∧ w ≠ [60] ∧ w ≠ [60, 61] ∧ w ≠ [42] ∧ w ≠ [47]) := by
  by_cases h1 : w = [43]
  · exact .inl h1
  by_cases h2 : w = [45]
  · exact .inr (.inl h2)
  by_cases h3 : w = [62]
  · exact .inr (.inr (.inl h3))
  by_cases h4 : w = [62, 61]
  · exact .inr (.inr (.inr (.inl h4)))
  by_cases h5 : w = [60]
  · exact .inr (.inr (.inr (.inr (.inl h5))))
  by_cases h6 : w = [60, 61]
  · exact .inr (.inr (.inr (.inr (.inr (.inl h6)))))
  by_cases h7 : w = [42]
  · exact .inr (.inr (.inr (.inr (.inr (.inr (.inl h7))))))
  by_cases h8 : w = [47]
  · exact .inr (.inr (.inr (.inr (.inr (.inr (.inr (.inl h8)))))))
  exact .inr (.inr (.inr (.inr (.inr (.inr (.inr (.inr ⟨h1, h2, h3, h4, h5, h6, h7, h8⟩)))))))

set_option maxHeartbeats 16000000 in
set_option maxRecDepth 10000 in
theorem op_any {l : List Kno} (t a b : Tr) (hlen : t.kids.length ≤ 1000000) (h0 : t.kids[0]? = some a) (h1 : t.kids[1]? = some b) (iha : WayC l a) (ihb : WayC l b) (ca : CstC a) (cb : CstC b) : OpC l t (opW t.word (wyT l a) (wyT l b) (cstT a) (cstT b)) := by
  intro w P A cap B lc hk hc
  have HE : Hid (opW t.word (wyT l a) (wyT l b) (cstT a) (cstT b) = opB t.word (wyT l a) (wyT l b) ((cstT a).getD 0) ((cstT b).getD 0) (cstT a).isSome (cstT b).isSome) := Lib.hid (opW_B _ _ _ _ _)
  obtain ⟨g, o, rfl⟩ := hk.addr h0
  have HK := Lib.hid hk
  have Ha := Lib.hid h0
  have Hb := Lib.hid h1
  have HC := Lib.hid hc
  have l0 : 0 < t.kids.length := (List.getElem?_eq_some_iff.1 h0).1
  have l1 : 1 < t.kids.length := (List.getElem?_eq_some_iff.1 h1).1
  have hb0 : Below (w.heap.size + 1) (w.alloc (.cells #[.int .i64 t.kind, .int .i64 t.num, .int .i64 t.c1, .int .i64 t.r1, .int .i64 t.c2, .int .i64 t.r2, .string ⟨t.word.toArray⟩, .slice (some ⟨g, o, none⟩) t.kids.length cap] 29)) (w.alloc (.cells #[.int .i64 t.kind, .int .i64 t.num, .int .i64 t.c1, .int .i64 t.r1, .int .i64 t.c2, .int .i64 t.r2, .string ⟨t.word.toArray⟩, .slice (some ⟨g, o, none⟩) t.kids.length cap] 29)) := Below.refl _ _
  obtain ⟨⟨k0, k1, k2, k3, k4, k5, k6, k7⟩, kz, kb⟩ := parT hb0
  obtain ⟨hga, Aa, cpa, ⟨q0, q1, q2, q3, q4, q5, q6, q7⟩, hka⟩ := HK.out.kidAt kb Ha.out
  simp only [Nat.zero_mul, Nat.add_zero] at q0 q1 q2 q3 q4 q5 q6 q7
  have HC0 := Lib.hid (iha _ _ Aa cpa B lc hka (hc.below kb))
  have HWB := Lib.hid ihb
  have HCA := Lib.hid ca
  have HCB := Lib.hid cb
  generalize hJ : opW t.word (wyT l a) (wyT l b) (cstT a) (cstT b) = J at *
  clear hk hc h0 h1 iha ihb ca cb hka hga hJ k0 k1 k2 k3 k4 k5 k6 k7
  go_enter Tryd.func40, Tryd.ntmps40
  go_wp2_with fail
  refine Calls.mono HC0.out ?_; rintro e w1 ⟨rfl, b1⟩
  have hb1 := hb0.trans (b1.mono (by simp))
  clear b1 q0 q1 q2 q3 q4 q5 q6 q7 kb kz hb0 HC0
  obtain ⟨⟨k0, k1, k2, k3, k4, k5, k6, k7⟩, kz, kb⟩ := parT hb1
  obtain ⟨hgb, Ab, cpb, ⟨q0, q1, q2, q3, q4, q5, q6, q7⟩, hkb⟩ := HK.out.kidAt kb Hb.out
  simp only [Nat.one_mul, Nat.add_assoc, Nat.reduceAdd] at q0 q1 q2 q3 q4 q5 q6 q7
  have HC1 := Lib.hid (HWB.out _ _ Ab cpb B lc hkb (HC.out.below kb))
  clear hkb hgb HWB
  go_wp2_with fail
  refine Calls.mono HC1.out ?_; rintro e w2 ⟨rfl, b2⟩
  have hb2 := hb1.trans (b2.mono (by have := hb1.size; simpa using this))
  clear b2 q0 q1 q2 q3 q4 q5 q6 q7 k0 k1 k2 k3 k4 k5 k6 k7 kb kz hb1 HC1
  obtain ⟨⟨k0, k1, k2, k3, k4, k5, k6, k7⟩, kz, kb⟩ := parT hb2
  obtain ⟨hga, Aa2, cpa2, ⟨q0, q1, q2, q3, q4, q5, q6, q7⟩, hka⟩ := HK.out.kidAt kb Ha.out
  simp only [Nat.zero_mul, Nat.add_zero] at q0 q1 q2 q3 q4 q5 q6 q7
  have HC2 := Lib.hid (HCA.out _ _ Aa2 cpa2 hka)
  clear hka hga HCA
  generalize wyT l a = X at *
  generalize wyT l b = Y at *
  generalize (cstT a).getD 0 = M at *
  generalize (cstT a).isSome = m at *
  go_wp2_with fail
  refine Calls.mono HC2.out ?_; rintro e w3 ⟨rfl, b3⟩
  have hb3 := hb2.trans (b3.mono (by have := hb2.size; simpa using this))
  clear b3 q0 q1 q2 q3 q4 q5 q6 q7 k0 k1 k2 k3 k4 k5 k6 k7 kb kz hb2 HC2
  obtain ⟨⟨k0, k1, k2, k3, k4, k5, k6, k7⟩, kz, kb⟩ := parT hb3
  obtain ⟨hgb, Ab2, cpb2, ⟨q0, q1, q2, q3, q4, q5, q6, q7⟩, hkb⟩ := HK.out.kidAt kb Hb.out
  simp only [Nat.one_mul, Nat.add_assoc, Nat.reduceAdd] at q0 q1 q2 q3 q4 q5 q6 q7
  have HC3 := Lib.hid (HCB.out _ _ Ab2 cpb2 hkb)
  clear hkb hgb HCB
  generalize (cstT b).getD 0 = N at *
  generalize (cstT b).isSome = n at *
  go_wp2_with fail
  refine Calls.mono HC3.out ?_; rintro e w4 ⟨rfl, b4⟩
  have hb4 := hb3.trans (b4.mono (by have := hb3.size; simpa using this))
  clear b4 q0 q1 q2 q3 q4 q5 q6 q7 k0 k1 k2 k3 k4 k5 k6 k7 kb kz hb3 HC3 HK Ha Hb HC
  obtain ⟨⟨k0, k1, k2, k3, k4, k5, k6, k7⟩, kz, nb⟩ := parT hb4
  clear k0 k1 k2 k3 k4 k5 k7 kz hb4
  have HW := Lib.hid (opm_cases t.word)
  rcases HW.out with hwd | hwd | hwd | hwd | hwd | hwd | hwd | hwd | ⟨g0, g1, g2, g3, g4, g5, g6, g7⟩
  · have HE1 : Hid (J = opB [43] X Y M N m n) := Lib.hid (by rw [HE.out, hwd])
    have x43 : (t.word == [43]) = true := by rw [hwd]; rfl
    have x45 : (t.word == [45]) = false := by rw [hwd]; rfl
    have x62 : (t.word == [62]) = false := by rw [hwd]; rfl
    have x6261 : (t.word == [62, 61]) = false := by rw [hwd]; rfl
    have x60 : (t.word == [60]) = false := by rw [hwd]; rfl
    have x6061 : (t.word == [60, 61]) = false := by rw [hwd]; rfl
    have x42 : (t.word == [42]) = false := by rw [hwd]; rfl
    have x47 : (t.word == [47]) = false := by rw [hwd]; rfl
    clear HW HE hwd
    have HE2 : Hid (J = joinW X Y) := Lib.hid (by rw [HE1.out]; simp [opB])
    clear HE1
    go_wp2_with fail
    refine Calls.mono (wtwo_any X Y _) ?_; rintro e w5 ⟨rfl, b5⟩
    have nb5 := nb.trans (b5.mono nb.size)
    clear b5
    go_wp2_with fail
    go_ret
    exact ⟨ret_int HE2.out.symm, nb5⟩
  · have HE1 : Hid (J = opB [45] X Y M N m n) := Lib.hid (by rw [HE.out, hwd])
    have x43 : (t.word == [43]) = false := by rw [hwd]; rfl
    have x45 : (t.word == [45]) = true := by rw [hwd]; rfl
    have x62 : (t.word == [62]) = false := by rw [hwd]; rfl
    have x6261 : (t.word == [62, 61]) = false := by rw [hwd]; rfl
    have x60 : (t.word == [60]) = false := by rw [hwd]; rfl
    have x6061 : (t.word == [60, 61]) = false := by rw [hwd]; rfl
    have x42 : (t.word == [42]) = false := by rw [hwd]; rfl
    have x47 : (t.word == [47]) = false := by rw [hwd]; rfl
    clear HW HE hwd
    have HE2 : Hid (J = joinW X (flipW Y)) := Lib.hid (by rw [HE1.out]; simp [opB])
    clear HE1
    have HT := Lib.hid (fun z w => wtwo_any X z w)
    go_wp2_with fail
    refine Calls.mono (wflip_any Y _) ?_; rintro e w5 ⟨rfl, b5⟩
    have nb5 := nb.trans (b5.mono nb.size)
    clear b5
    generalize flipW Y = Z at *
    go_wp2_with fail
    refine Calls.mono (HT.out Z _) ?_; rintro e w6 ⟨rfl, b6⟩
    have nb6 := nb5.trans (b6.mono nb5.size)
    clear b6
    go_wp2_with fail
    go_ret
    exact ⟨ret_int HE2.out.symm, nb6⟩
  · have HE1 : Hid (J = opB [62] X Y M N m n) := Lib.hid (by rw [HE.out, hwd])
    have x43 : (t.word == [43]) = false := by rw [hwd]; rfl
    have x45 : (t.word == [45]) = false := by rw [hwd]; rfl
    have x62 : (t.word == [62]) = true := by rw [hwd]; rfl
    have x6261 : (t.word == [62, 61]) = false := by rw [hwd]; rfl
    have x60 : (t.word == [60]) = false := by rw [hwd]; rfl
    have x6061 : (t.word == [60, 61]) = false := by rw [hwd]; rfl
    have x42 : (t.word == [42]) = false := by rw [hwd]; rfl
    have x47 : (t.word == [47]) = false := by rw [hwd]; rfl
    clear HW HE hwd
    have HE2 : Hid (J = joinW X (flipW Y)) := Lib.hid (by rw [HE1.out]; simp [opB])
    clear HE1
    have HT := Lib.hid (fun z w => wtwo_any X z w)
    go_wp2_with fail
    refine Calls.mono (wflip_any Y _) ?_; rintro e w5 ⟨rfl, b5⟩
    have nb5 := nb.trans (b5.mono nb.size)
    clear b5
    generalize flipW Y = Z at *
    go_wp2_with fail
    refine Calls.mono (HT.out Z _) ?_; rintro e w6 ⟨rfl, b6⟩
    have nb6 := nb5.trans (b6.mono nb5.size)
    clear b6
    go_wp2_with fail
    go_ret
    exact ⟨ret_int HE2.out.symm, nb6⟩
  · have HE1 : Hid (J = opB [62, 61] X Y M N m n) := Lib.hid (by rw [HE.out, hwd])
    have x43 : (t.word == [43]) = false := by rw [hwd]; rfl
    have x45 : (t.word == [45]) = false := by rw [hwd]; rfl
    have x62 : (t.word == [62]) = false := by rw [hwd]; rfl
    have x6261 : (t.word == [62, 61]) = true := by rw [hwd]; rfl
    have x60 : (t.word == [60]) = false := by rw [hwd]; rfl
    have x6061 : (t.word == [60, 61]) = false := by rw [hwd]; rfl
    have x42 : (t.word == [42]) = false := by rw [hwd]; rfl
    have x47 : (t.word == [47]) = false := by rw [hwd]; rfl
    clear HW HE hwd
    have HE2 : Hid (J = joinW X (flipW Y)) := Lib.hid (by rw [HE1.out]; simp [opB])
    clear HE1
    have HT := Lib.hid (fun z w => wtwo_any X z w)
    go_wp2_with fail
    refine Calls.mono (wflip_any Y _) ?_; rintro e w5 ⟨rfl, b5⟩
    have nb5 := nb.trans (b5.mono nb.size)
    clear b5
    generalize flipW Y = Z at *
    go_wp2_with fail
    refine Calls.mono (HT.out Z _) ?_; rintro e w6 ⟨rfl, b6⟩
    have nb6 := nb5.trans (b6.mono nb5.size)
    clear b6
    go_wp2_with fail
    go_ret
    exact ⟨ret_int HE2.out.symm, nb6⟩
  · have HE1 : Hid (J = opB [60] X Y M N m n) := Lib.hid (by rw [HE.out, hwd])
    have x43 : (t.word == [43]) = false := by rw [hwd]; rfl
    have x45 : (t.word == [45]) = false := by rw [hwd]; rfl
    have x62 : (t.word == [62]) = false := by rw [hwd]; rfl
    have x6261 : (t.word == [62, 61]) = false := by rw [hwd]; rfl
    have x60 : (t.word == [60]) = true := by rw [hwd]; rfl
    have x6061 : (t.word == [60, 61]) = false := by rw [hwd]; rfl
    have x42 : (t.word == [42]) = false := by rw [hwd]; rfl
    have x47 : (t.word == [47]) = false := by rw [hwd]; rfl
    clear HW HE hwd
    have HE2 : Hid (J = flipW (joinW X (flipW Y))) := Lib.hid (by rw [HE1.out]; simp [opB])
    clear HE1
    go_wp2_with fail
    refine Calls.mono (wflip_any Y _) ?_; rintro e w5 ⟨rfl, b5⟩
    have nb5 := nb.trans (b5.mono nb.size)
    clear b5
    generalize flipW Y = Z at *
    go_wp2_with fail
    refine Calls.mono (wtwo_any X Z _) ?_; rintro e w6 ⟨rfl, b6⟩
    have nb6 := nb5.trans (b6.mono nb5.size)
    clear b6
    generalize joinW X Z = Q at *
    go_wp2_with fail
    refine Calls.mono (wflip_any Q _) ?_; rintro e w7 ⟨rfl, b7⟩
    have nb7 := nb6.trans (b7.mono nb6.size)
    clear b7
    go_wp2_with fail
    go_ret
    exact ⟨ret_int HE2.out.symm, nb7⟩
  · have HE1 : Hid (J = opB [60, 61] X Y M N m n) := Lib.hid (by rw [HE.out, hwd])
    have x43 : (t.word == [43]) = false := by rw [hwd]; rfl
    have x45 : (t.word == [45]) = false := by rw [hwd]; rfl
    have x62 : (t.word == [62]) = false := by rw [hwd]; rfl
    have x6261 : (t.word == [62, 61]) = false := by rw [hwd]; rfl
    have x60 : (t.word == [60]) = false := by rw [hwd]; rfl
    have x6061 : (t.word == [60, 61]) = true := by rw [hwd]; rfl
    have x42 : (t.word == [42]) = false := by rw [hwd]; rfl
    have x47 : (t.word == [47]) = false := by rw [hwd]; rfl
    clear HW HE hwd
    have HE2 : Hid (J = flipW (joinW X (flipW Y))) := Lib.hid (by rw [HE1.out]; simp [opB])
    clear HE1
    go_wp2_with fail
    refine Calls.mono (wflip_any Y _) ?_; rintro e w5 ⟨rfl, b5⟩
    have nb5 := nb.trans (b5.mono nb.size)
    clear b5
    generalize flipW Y = Z at *
    go_wp2_with fail
    refine Calls.mono (wtwo_any X Z _) ?_; rintro e w6 ⟨rfl, b6⟩
    have nb6 := nb5.trans (b6.mono nb5.size)
    clear b6
    generalize joinW X Z = Q at *
    go_wp2_with fail
    refine Calls.mono (wflip_any Q _) ?_; rintro e w7 ⟨rfl, b7⟩
    have nb7 := nb6.trans (b7.mono nb6.size)
    clear b7
    go_wp2_with fail
    go_ret
    exact ⟨ret_int HE2.out.symm, nb7⟩
  · have HE1 : Hid (J = opB [42] X Y M N m n) := Lib.hid (by rw [HE.out, hwd])
    have x43 : (t.word == [43]) = false := by rw [hwd]; rfl
    have x45 : (t.word == [45]) = false := by rw [hwd]; rfl
    have x62 : (t.word == [62]) = false := by rw [hwd]; rfl
    have x6261 : (t.word == [62, 61]) = false := by rw [hwd]; rfl
    have x60 : (t.word == [60]) = false := by rw [hwd]; rfl
    have x6061 : (t.word == [60, 61]) = false := by rw [hwd]; rfl
    have x42 : (t.word == [42]) = true := by rw [hwd]; rfl
    have x47 : (t.word == [47]) = false := by rw [hwd]; rfl
    clear HW HE hwd
    cases n with
    | true =>
      have HE2 : Hid (J = byW X N) := Lib.hid (by rw [HE1.out]; simp [opB])
      clear HE1
      go_wp2_with fail
      refine Calls.mono (wby_any X N _) ?_; rintro e w5 ⟨rfl, b5⟩
      have nb5 := nb.trans (b5.mono nb.size)
      clear b5
      go_wp2_with fail
      go_ret
      exact ⟨ret_int HE2.out.symm, nb5⟩
    | false =>
      cases m with
      | true =>
        have HE2 : Hid (J = byW Y M) := Lib.hid (by rw [HE1.out]; simp [opB])
        clear HE1
        go_wp2_with fail
        refine Calls.mono (wby_any Y M _) ?_; rintro e w5 ⟨rfl, b5⟩
        have nb5 := nb.trans (b5.mono nb.size)
        clear b5
        go_wp2_with fail
        go_ret
        exact ⟨ret_int HE2.out.symm, nb5⟩
      | false =>
        have HE2 : Hid (J = stW X Y) := Lib.hid (by rw [HE1.out]; simp [opB])
        clear HE1
        by_cases hx : X = 0
        · have dx : (X == 0) = true := by simpa using hx
          by_cases hy : Y = 0
          · have dy : (Y == 0) = true := by simpa using hy
            have HF : Hid (J = 0) := Lib.hid (by rw [HE2.out]; exact if_pos ⟨hx, hy⟩)
            clear hx hy HE2
            go_wp2_with fail
            go_ret
            exact ⟨ret_int HF.out.symm, nb⟩
          · have dy : (Y == 0) = false := by simpa using hy
            have HF : Hid (J = 3) := Lib.hid (by rw [HE2.out]; exact if_neg fun h => hy h.2)
            clear hx hy HE2
            go_wp2_with fail
            go_ret
            exact ⟨ret_int HF.out.symm, nb⟩
        · have dx : (X == 0) = false := by simpa using hx
          have HF : Hid (J = 3) := Lib.hid (by rw [HE2.out]; exact if_neg fun h => hx h.1)
          clear hx HE2
          by_cases hy : Y = 0
          · have dy : (Y == 0) = true := by simpa using hy
            clear hy
            go_wp2_with fail
            go_ret
            exact ⟨ret_int HF.out.symm, nb⟩
          · have dy : (Y == 0) = false := by simpa using hy
            clear hy
            go_wp2_with fail
            go_ret
            exact ⟨ret_int HF.out.symm, nb⟩
  · have HE1 : Hid (J = opB [47] X Y M N m n) := Lib.hid (by rw [HE.out, hwd])
    have x43 : (t.word == [43]) = false := by rw [hwd]; rfl
    have x45 : (t.word == [45]) = false := by rw [hwd]; rfl
    have x62 : (t.word == [62]) = false := by rw [hwd]; rfl
    have x6261 : (t.word == [62, 61]) = false := by rw [hwd]; rfl
    have x60 : (t.word == [60]) = false := by rw [hwd]; rfl
    have x6061 : (t.word == [60, 61]) = false := by rw [hwd]; rfl
    have x42 : (t.word == [42]) = false := by rw [hwd]; rfl
    have x47 : (t.word == [47]) = true := by rw [hwd]; rfl
    clear HW HE hwd
    cases n with
    | true =>
      by_cases hN : N = 0
      · have dN : (N == 0) = true := by simpa using hN
        have dn : (N != 0) = false := by simpa using hN
        have HE2 : Hid (J = stW X Y) := Lib.hid (by rw [HE1.out]; simp [opB, hN])
        clear HE1 hN
        by_cases hx : X = 0
        · have dx : (X == 0) = true := by simpa using hx
          by_cases hy : Y = 0
          · have dy : (Y == 0) = true := by simpa using hy
            have HF : Hid (J = 0) := Lib.hid (by rw [HE2.out]; exact if_pos ⟨hx, hy⟩)
            clear hx hy HE2
            go_wp2_with fail
            go_ret
            exact ⟨ret_int HF.out.symm, nb⟩
          · have dy : (Y == 0) = false := by simpa using hy
            have HF : Hid (J = 3) := Lib.hid (by rw [HE2.out]; exact if_neg fun h => hy h.2)
            clear hx hy HE2
            go_wp2_with fail
            go_ret
            exact ⟨ret_int HF.out.symm, nb⟩
        · have dx : (X == 0) = false := by simpa using hx
          have HF : Hid (J = 3) := Lib.hid (by rw [HE2.out]; exact if_neg fun h => hx h.1)
          clear hx HE2
          by_cases hy : Y = 0
          · have dy : (Y == 0) = true := by simpa using hy
            clear hy
            go_wp2_with fail
            go_ret
            exact ⟨ret_int HF.out.symm, nb⟩
          · have dy : (Y == 0) = false := by simpa using hy
            clear hy
            go_wp2_with fail
            go_ret
            exact ⟨ret_int HF.out.symm, nb⟩
      · have dN : (N == 0) = false := by simpa using hN
        have dn : (N != 0) = true := by simpa using hN
        have HE2 : Hid (J = byW X N) := Lib.hid (by rw [HE1.out]; simp [opB, hN])
        clear HE1 hN
        go_wp2_with fail
        refine Calls.mono (wby_any X N _) ?_; rintro e w5 ⟨rfl, b5⟩
        have nb5 := nb.trans (b5.mono nb.size)
        clear b5
        go_wp2_with fail
        go_ret
        exact ⟨ret_int HE2.out.symm, nb5⟩
    | false =>
      have HE2 : Hid (J = stW X Y) := Lib.hid (by rw [HE1.out]; simp [opB])
      clear HE1
      by_cases hN : N = 0
      · have dN : (N == 0) = true := by simpa using hN
        have dn : (N != 0) = false := by simpa using hN
        clear hN
        by_cases hx : X = 0
        · have dx : (X == 0) = true := by simpa using hx
          by_cases hy : Y = 0
          · have dy : (Y == 0) = true := by simpa using hy
            have HF : Hid (J = 0) := Lib.hid (by rw [HE2.out]; exact if_pos ⟨hx, hy⟩)
            clear hx hy HE2
            go_wp2_with fail
            go_ret
            exact ⟨ret_int HF.out.symm, nb⟩
          · have dy : (Y == 0) = false := by simpa using hy
            have HF : Hid (J = 3) := Lib.hid (by rw [HE2.out]; exact if_neg fun h => hy h.2)
            clear hx hy HE2
            go_wp2_with fail
            go_ret
            exact ⟨ret_int HF.out.symm, nb⟩
        · have dx : (X == 0) = false := by simpa using hx
          have HF : Hid (J = 3) := Lib.hid (by rw [HE2.out]; exact if_neg fun h => hx h.1)
          clear hx HE2
          by_cases hy : Y = 0
          · have dy : (Y == 0) = true := by simpa using hy
            clear hy
            go_wp2_with fail
            go_ret
            exact ⟨ret_int HF.out.symm, nb⟩
          · have dy : (Y == 0) = false := by simpa using hy
            clear hy
            go_wp2_with fail
            go_ret
            exact ⟨ret_int HF.out.symm, nb⟩
      · have dN : (N == 0) = false := by simpa using hN
        have dn : (N != 0) = true := by simpa using hN
        clear hN
        by_cases hx : X = 0
        · have dx : (X == 0) = true := by simpa using hx
          by_cases hy : Y = 0
          · have dy : (Y == 0) = true := by simpa using hy
            have HF : Hid (J = 0) := Lib.hid (by rw [HE2.out]; exact if_pos ⟨hx, hy⟩)
            clear hx hy HE2
            go_wp2_with fail
            go_ret
            exact ⟨ret_int HF.out.symm, nb⟩
          · have dy : (Y == 0) = false := by simpa using hy
            have HF : Hid (J = 3) := Lib.hid (by rw [HE2.out]; exact if_neg fun h => hy h.2)
            clear hx hy HE2
            go_wp2_with fail
            go_ret
            exact ⟨ret_int HF.out.symm, nb⟩
        · have dx : (X == 0) = false := by simpa using hx
          have HF : Hid (J = 3) := Lib.hid (by rw [HE2.out]; exact if_neg fun h => hx h.1)
          clear hx HE2
          by_cases hy : Y = 0
          · have dy : (Y == 0) = true := by simpa using hy
            clear hy
            go_wp2_with fail
            go_ret
            exact ⟨ret_int HF.out.symm, nb⟩
          · have dy : (Y == 0) = false := by simpa using hy
            clear hy
            go_wp2_with fail
            go_ret
            exact ⟨ret_int HF.out.symm, nb⟩
  · have HE2 : Hid (J = stW X Y) := Lib.hid (by rw [HE.out]; simp [opB, g0, g1, g2, g3, g4, g5, g6, g7])
    have x43 : (t.word == [43]) = false := by rw [beq_eq_false_iff_ne]; exact g0
    have x45 : (t.word == [45]) = false := by rw [beq_eq_false_iff_ne]; exact g1
    have x62 : (t.word == [62]) = false := by rw [beq_eq_false_iff_ne]; exact g2
    have x6261 : (t.word == [62, 61]) = false := by rw [beq_eq_false_iff_ne]; exact g3
    have x60 : (t.word == [60]) = false := by rw [beq_eq_false_iff_ne]; exact g4
    have x6061 : (t.word == [60, 61]) = false := by rw [beq_eq_false_iff_ne]; exact g5
    have x42 : (t.word == [42]) = false := by rw [beq_eq_false_iff_ne]; exact g6
    have x47 : (t.word == [47]) = false := by rw [beq_eq_false_iff_ne]; exact g7
    clear HW HE g0 g1 g2 g3 g4 g5 g6 g7
    by_cases hx : X = 0
    · have dx : (X == 0) = true := by simpa using hx
      by_cases hy : Y = 0
      · have dy : (Y == 0) = true := by simpa using hy
        have HF : Hid (J = 0) := Lib.hid (by rw [HE2.out]; exact if_pos ⟨hx, hy⟩)
        clear hx hy HE2
        go_wp2_with fail
        go_ret
        exact ⟨ret_int HF.out.symm, nb⟩
      · have dy : (Y == 0) = false := by simpa using hy
        have HF : Hid (J = 3) := Lib.hid (by rw [HE2.out]; exact if_neg fun h => hy h.2)
        clear hx hy HE2
        go_wp2_with fail
        go_ret
        exact ⟨ret_int HF.out.symm, nb⟩
    · have dx : (X == 0) = false := by simpa using hx
      have HF : Hid (J = 3) := Lib.hid (by rw [HE2.out]; exact if_neg fun h => hx h.1)
      clear hx HE2
      by_cases hy : Y = 0
      · have dy : (Y == 0) = true := by simpa using hy
        clear hy
        go_wp2_with fail
        go_ret
        exact ⟨ret_int HF.out.symm, nb⟩
      · have dy : (Y == 0) = false := by simpa using hy
        clear hy
        go_wp2_with fail
        go_ret
        exact ⟨ret_int HF.out.symm, nb⟩
end Go.Proofs.YthaoalmhhgllmaaDoor
