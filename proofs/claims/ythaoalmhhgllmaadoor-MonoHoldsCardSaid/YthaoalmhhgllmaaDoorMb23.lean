/- Texts joined: MoH, MoI, MoJ, MoD, MoE, MoF, MoK, RefJ, PlG, MoL, KvC, MoM. -/
import Derived.Test.YthaoalmhhgllmaaDoorMb22
import Derived.Test.YthaoalmhhgllmaaDoorMb08
import Derived.Maps.OwnSet
import Derived.DeepKeys4
import Derived.Shelf.Abstract
import Derived.Shelf.RegionOpen
import Derived.OwnWalkIn
import Derived.TacticsInMore
import Derived.LoopNIn
import Derived.LoopIn
import Derived.Test.YthaoalmhhgllmaaDoorMb07
import Derived.Test.YthaoalmhhgllmaaDoorMb09
import Derived.Test.YthaoalmhhgllmaaDoorMb11
import Derived.Test.YthaoalmhhgllmaaDoorMb13
import Derived.Test.YthaoalmhhgllmaaDoorMb02
import Derived.Test.YthaoalmhhgllmaaDoorMb06
import Derived.OwnWalk
import Derived.Deep.Onto
import Derived.Test.YthaoalmhhgllmaaDoorMb05
set_option linter.all false
namespace Go.Proofs.YthaoalmhhgllmaaDoor
open Go.RowKit Go.Maps Go.Deep
theorem placeKeyed : Keyed Tryd.prog 24 := Keyed.of_law (deep_law_laid laidOutT (m := 2) (by omega) (of_decide_eq_true (by kernel_rfl)) (by kernel_rfl) (by rw [Tryd.underlying24]))
def kP (x y : Int) : Lit := .string (keyBytes [.int .i64 x, .int .i64 y])
theorem wf64 {x : Int} (h : B64 x) : (Lit.int .i64 x).wf = true := by
  have e1 : IntKind.i64.min = -9223372036854775808 := rfl
  have e2 : IntKind.i64.max = 9223372036854775807 := rfl
  unfold B64 at h
  simp [Lit.wf, e1, e2]
  omega
set_option maxRecDepth 100000 in
theorem key_of {x y : Int} (hx : B64 x) (hy : B64 y) : keyOf Tryd.prog 24 (.agg #[.int .i64 x, .int .i64 y]) = some (kP x y) := by
  have h1 : Tryd.prog.keyType 24 = true := by kernel_rfl
  have h2 : (Value.agg #[.int .i64 x, .int .i64 y]).formed Tryd.prog 24 = true := by
    simp [Value.formed, Tryd.underlying24, cells_place]
  obtain ⟨d, hd⟩ : ∃ d, Tryd.prog.types.size = d + 1 := ⟨Tryd.prog.types.size - 1, by kernel_rfl⟩
  have h3 : Tryd.prog.keyLits (Tryd.prog.types.size + 1) 24 [.int .i64 x, .int .i64 y] = some [.int .i64 x, .int .i64 y] := by
    rw [hd]
    simp [Program.keyLits, Tryd.underlying24, Tryd.underlying3, cells_place, cells_int, wf64 hx, wf64 hy]
  unfold keyOf
  rw [Tryd.underlying24]
  simp only [h1, h2, Bool.and_self, if_true]
  show (Tryd.prog.keyLits (Tryd.prog.types.size + 1) 24 [.int .i64 x, .int .i64 y]).map _ = _
  rw [h3]; rfl
theorem kP_inj {x y p q : Int} (hx : B64 x) (hy : B64 y) (hp : B64 p) (hq : B64 q) (h : kP x y = kP p q) : x = p ∧ y = q := by
  have h1 := key_of hx hy
  rw [h] at h1
  have := placeKeyed.inj h1 (key_of hp hq)
  simpa using this
def litW (n : Int) : DataW Unit := .lit (.int .i64 n)
def wayElem (v : Value) : Option (DataW Unit × List MemPlace) := match v with
  | .int .i64 n => some (litW n, [])
  | _ => none
theorem wayElem_mk (n : Int) : wayElem (.int .i64 n) = some (litW n, []) := rfl
theorem wayElem_inv {v : Value} {n : Int} {ps : List MemPlace} (h : wayElem v = some (litW n, ps)) : v = .int .i64 n := by
  unfold wayElem at h
  split at h
  · unfold litW at h
    simp only [Option.some.injEq, Prod.mk.injEq, DataW.lit.injEq, Lit.int.injEq, true_and] at h
    rw [h.1]
  · cases h
theorem wayZero (w : World) : (zeroValue 31).run Tryd.prog w = .ok (.int .i64 0) w := by kernel_rfl
def wR (x y : Int) : List Kno → Int
  | [] => 0
  | k :: l => if k.c = x ∧ k.r = y then k.w else wR x y l
theorem clean_wR (x y : Int) : ∀ l, cleanW (wR x y l) = wAt x y l
  | [] => rfl
  | k :: l => by
    rw [wR, wAt]
    by_cases h : k.c = x ∧ k.r = y
    · rw [if_pos h, if_pos h]
    · rw [if_neg h, if_neg h]; exact clean_wR x y l
def MapW (w : World) (b : Nat) (l : List Kno) : Prop := ∃ (n : Nat) (D : DataW Unit), n ≤ l.length ∧ w.ownsMap Tryd.prog 24 wayElem b n D ∧ ∀ x y, B64 x → B64 y → D.atKey (kP x y) (litW 0) = litW (wR x y l)
theorem MapW.below {w w' : World} {b : Nat} {l : List Kno} (h : MapW w b l) (hb : Below w.heap.size w w') : MapW w' b l := by
  obtain ⟨n, D, h1, h2, h3⟩ := h
  exact ⟨n, D, h1, h2.kept (grown_of_below hb none) (by simp), h3⟩
theorem MapW.lt {w : World} {b : Nat} {l : List Kno} (h : MapW w b l) : b < w.heap.size := by
  obtain ⟨n, D, h1, h2, h3⟩ := h
  exact h2.lt
theorem MapW.made (w : World) : MapW (w.alloc (.map #[] 0)) w.heap.size [] := ⟨0, .map [], Nat.le_refl _, World.ownsMap_made w Tryd.prog 24 wayElem, fun _ _ _ _ => rfl⟩
theorem MapW.put {w : World} {b : Nat} {l : List Kno} {q : Kno} (hM : MapW w b l) (hl : l.length < maxLen) (hb : B64 q.c ∧ B64 q.r) :
    ∃ w', (Instr.mapUpdate 62 (.map (some b)) (.agg #[.int .i64 q.c, .int .i64 q.r]) (.int .i64 q.w)).run Tryd.prog w = .ok () w' ∧ MapW w' b (q :: l) ∧ w.grownBy w' (some b) := by
  obtain ⟨k, D, hkl, hown, hD⟩ := hM
  obtain ⟨w', hrun, r1, r2⟩ := hown.update placeKeyed Tryd.underlying62 (by omega) (key_of hb.1 hb.2) (wayElem_mk q.w)
  refine ⟨w', hrun, ⟨k + 1, _, by simp; omega, r1, fun x y hx hy => ?_⟩, r2⟩
  rw [wR]
  by_cases hp : q.c = x ∧ q.r = y
  · obtain ⟨rfl, rfl⟩ := hp
    rw [if_pos ⟨rfl, rfl⟩, atKey_put_same hown.isMap (placeKeyed.key (key_of hb.1 hb.2))]
  · have hne : kP x y ≠ kP q.c q.r := fun e => by
      obtain ⟨e1, e2⟩ := kP_inj hx hy hb.1 hb.2 e
      exact hp ⟨e1.symm, e2.symm⟩
    rw [if_neg hp, atKey_put_other hne]
    exact hD x y hx hy
section
variable (w : World) {ops : Array Oper} {rest : List Oper} {o : Oper} {a : Act} {Q : Exit → Act → World → Prop}
theorem wpList_ways (hg : o.guard = none) (m x : Operand) (hop : o.op = Op.lookup 62 m x false) {b : Nat} {l : List Kno} (hm : a.eval m = .map (some b)) (hM : MapW w b l) {p q n : Int} (hp : B64 p) (hq : B64 q)
    (hx : a.eval x = .agg #[.int .i64 p, .int .i64 q]) (h1 : wR p q l = n)
    (hK : wpList Tryd.prog ops Q rest (a.put o.dst (.int .i64 n)) w) : wpList Tryd.prog ops Q (o :: rest) a w := by
  obtain ⟨k, D, _, hown, hD⟩ := hM
  have e1 := hD p q hp hq
  refine wpList_plain hg fun K' hK' => ?_
  obtain ⟨v, ps, hrun, hv⟩ := hown.lookup placeKeyed Tryd.underlying62 (wayZero w) (zd := litW 0) (zp := []) rfl (key_of hp hq)
  rw [e1] at hv
  have := wayElem_inv hv
  subst this
  rw [h1] at hrun
  unfold Oper.wp
  simp [execOp, hop, hm, hx, hrun, Result.andThen]
  exact hK' _ _ hK
end
end Go.Proofs.YthaoalmhhgllmaaDoor
namespace Go.Proofs.YthaoalmhhgllmaaDoor
open Go.RowKit Go.Shelf
attribute [local go_sem] Oper.semAt_some
theorem vint {a b : Int} (h : a = b) : Value.int .i64 a = .int .i64 b := by rw [h]
def encK (q : Kno) (args : Array Value) : Prop := ∃ i : Int, args = #[.int .i64 i, .agg #[.int .i64 q.c, .int .i64 q.r, .int .i64 q.w]]
set_option maxHeartbeats 4000000 in
set_option maxRecDepth 100000 in
theorem back_yields {l : List Kno} (hl : l.length ≤ maxLen) {w : World} {Bs : Nat} {A : Option Addr} {cap : Nat} (hB : w.cell? ⟨Bs, 0, none⟩ = some (.slice A l.length cap)) (hc : ListK w A l) :
    Yields Tryd.prog 50 #[.pointer (some ⟨Bs, 0, none⟩)] l.reverse encK (fun k => k = Bs ∨ l ≠ [] ∧ ∃ o, A = some ⟨k, o, none⟩) w := by
  intro L C J Jx W hb hC hJ hJx hY h0
  show Calls Tryd.prog 50 #[.func (.yield L) #[] #[], .pointer (some ⟨Bs, 0, none⟩)] W _
  have hBW : W.cell? ⟨Bs, 0, none⟩ = some (.slice A l.length cap) := keep_cell hb hB
  have HC := Lib.hid (hc.below hb)
  have hnB : ¬ C Bs := fun h => (hC Bs h).2 (.inl rfl)
  unfold maxLen at hl
  clear hB hc
  refine (callsIn_wide (n := 9)).1 (callsIn_of_wp Tryd.func50 rfl trivial ?_ rfl)
  simp only [Tryd.ntmps50, List.size_toArray, List.length_cons, List.length_nil, Nat.reduceAdd, Nat.reduceSub, Array.replicate_succ, Array.replicate_zero, List.push_toArray, List.append_toArray, List.nil_append, List.cons_append]
  gi_wp2
  gi_loopw [3] (fun n wr => ∃ k : Nat, k ≤ l.length ∧ n = .int .i64 ((l.length : Int) - 1 - (k : Int)) ∧ Sav C W wr ∧ J k wr) (fun n _ => (intOf n + 1).toNat)
  case atStart => exact ⟨0, Nat.zero_le _, vint (by omega), Sav.refl _ _, h0⟩
  case round =>
    obtain ⟨k, hk, rfl, hs, hj⟩ := hrel
    have hbs : wr.cell? ⟨Bs, 0, none⟩ = some (.slice A l.length cap) := hs.cell hnB hBW
    by_cases hlt : k < l.length
    · obtain ⟨m, hm⟩ : ∃ m : Nat, l.length = m + 1 + k := ⟨l.length - 1 - k, by omega⟩
      obtain ⟨q, hq⟩ : ∃ q, l[m]? = some q := ⟨_, List.getElem?_eq_getElem (by omega)⟩
      have hx : l.reverse[k]? = some q := by rw [List.getElem?_reverse hlt, show l.length - 1 - k = m from by omega]; exact hq
      have hne : l ≠ [] := by rintro rfl; simp at hlt
      obtain ⟨g, o, rfl, hat⟩ := HC.out hne
      have hng : ¬ C g := fun h => (hC g h).2 (.inr ⟨hne, o, rfl⟩)
      have c0 : wr.cell? ⟨g, o + m * 3, none⟩ = some (.int .i64 q.c) := hs.cell hng (hat m q hq 0 _ rfl)
      have c1 : wr.cell? ⟨g, o + m * 3 + 1, none⟩ = some (.int .i64 q.r) := hs.cell hng (hat m q hq 1 _ rfl)
      have c2 : wr.cell? ⟨g, o + m * 3 + 2, none⟩ = some (.int .i64 q.w) := hs.cell hng (hat m q hq 2 _ rfl)
      have em : (l.length : Int) - 1 - (k : Int) = (m : Int) := by omega
      rw [em]
      obtain ⟨fn, tmps, assign, bd, hy, hR⟩ := hY 8 k q _ wr hx ⟨(m : Int), rfl⟩ hs hj
      have HN : Hid ((m : Int) - 1 = (l.length : Int) - 1 - ((k + 1 : Nat) : Int)) := Lib.hid (by omega)
      have ml : m < l.length := by omega
      clear hat hq hx em hm
      gi_wp2
      refine RoundIn.mono hR ?_
      rintro e V2 ⟨hs2, ⟨rfl, hj2⟩ | ⟨rfl, hx2⟩⟩
      · have hs3 := hs.trans hs2
        clear hy hR c0 c1 c2
        gi_wp2
        go_roundw
        case rel => exact ⟨k + 1, by omega, vint (by first | exact HN.out | omega), hs3, hj2⟩
        case measure => simp [intOf]
      · have hs3 := hs.trans hs2
        gi_wp2
        refine bodyPost_ret (results_none rfl _ _ _) rfl ?_
        exact ⟨⟨_, rfl⟩, hs3, .inr hx2⟩
    · have hk2 : k = l.length := by omega
      subst hk2
      rw [show (l.length : Int) - 1 - (l.length : Int) = -1 from by omega]
      gi_wp2
      go_end0
      exact ⟨⟨_, rfl⟩, hs, .inl (by rw [List.length_reverse]; exact hj)⟩
end Go.Proofs.YthaoalmhhgllmaaDoor
namespace Go.Proofs.YthaoalmhhgllmaaDoor
open Go.RowKit Go.Shelf
attribute [local go_sem] Oper.semAt_some
theorem MapW.block {w w' : World} {b : Nat} {l : List Kno} (h : MapW w b l) (hb : w'.heap[b]? = w.heap[b]?) : MapW w' b l := by
  obtain ⟨n, D, h1, ⟨es, clock, h2, F, hs, hD⟩, h3⟩ := h
  exact ⟨n, D, h1, ⟨es, clock, hb.trans h2, F, hs, hD⟩, h3⟩
theorem drop_back {l : List Kno} {i : Nat} {q : Kno} (h : l.reverse[i]? = some q) : l.drop (l.length - (i + 1)) = q :: l.drop (l.length - i) := by
  have hi : i < l.length := by have := (List.getElem?_eq_some_iff.1 h).1; rwa [List.length_reverse] at this
  rw [List.getElem?_reverse hi] at h
  have hlt : l.length - (i + 1) < l.length := by omega
  rw [List.drop_eq_getElem_cons hlt]
  rw [show l.length - 1 - i = l.length - (i + 1) from by omega, List.getElem?_eq_getElem hlt] at h
  rw [Option.some.inj h, show l.length - (i + 1) + 1 = l.length - i from by omega]
set_option maxHeartbeats 2000000 in
set_option maxRecDepth 100000 in
theorem mback_any (A : Option Addr) (cap : Nat) (k : Nat) (w : World) :
    Calls Tryd.prog 34 #[.slice A k cap] w fun e w' => e = .returned (.func (.func 50) #[] #[.pointer (some ⟨w.heap.size, 0, none⟩)]) ∧ w' = w.alloc (.cells #[.slice A k cap] 30) := by
  go_enter Tryd.func34, Tryd.ntmps34
  go_wp2_with fail
  go_ret
  exact ⟨rfl, rfl⟩
def C3 (w : World) (B : Nat) (q : Kno) : Prop := w.cell? ⟨B, 0, none⟩ = some (.int .i64 q.c) ∧ w.cell? ⟨B, 1, none⟩ = some (.int .i64 q.r) ∧ w.cell? ⟨B, 2, none⟩ = some (.int .i64 q.w)
set_option maxHeartbeats 8000000 in
set_option maxRecDepth 100000 in
theorem mfirst_any (l : List Kno) (hl : l.length < maxLen) (hb : ∀ q ∈ l, B64 q.c ∧ B64 q.r) (A : Option Addr) (cap : Nat) (w : World) (hc : ListK w A l) :
    Calls Tryd.prog 20 #[.slice A l.length cap] w fun e w' => ∃ b, e = .returned (.map (some b)) ∧ MapW w' b l ∧ b < w'.heap.size ∧ Below w.heap.size w w' := by
  have HBk := Lib.hid (fun w => mback_any A cap l.length w)
  have hmm := @run_makeMap Tryd.prog
  refine (callsIn_wide (n := 9)).1 (callsIn_of_wp_marks Tryd.func20 rfl trivial ?_ rfl)
  simp only [Tryd.ntmps20, List.size_toArray, List.length_cons, List.length_nil, Nat.reduceAdd, Nat.reduceSub, Array.replicate_succ, Array.replicate_zero, List.push_toArray, List.append_toArray, List.nil_append, List.cons_append]
  gi_wp2
  refine ⟨trivial, ?_⟩
  refine (callsIn_wide.2 (HBk.out _)).mono ?_
  rintro e w1 ⟨rfl, rfl⟩
  clear HBk
  gi_wp2
  obtain ⟨W1, hW1⟩ : ∃ W1, (((w.alloc (.map #[] 0)).alloc (.cells #[.map (some w.heap.size)] 62)).alloc (.cells #[.slice A l.length cap] 30)) = W1 := ⟨_, rfl⟩
  have hbW : Below w.heap.size w W1 := by rw [← hW1]; exact (((Below.refl _ _).alloc (Nat.le_refl _) _).alloc (by simp) _).alloc (by simp; omega) _
  have hz1 : W1.heap.size = w.heap.size + 3 := by rw [← hW1]; simp
  have hk0 : W1.cell? ⟨w.heap.size + 1, 0, none⟩ = some (.map (some w.heap.size)) := by rw [← hW1]; simp [go_sem]
  have hs0 : W1.cell? ⟨w.heap.size + 1 + 1, 0, none⟩ = some (.slice A l.length cap) := by rw [← hW1]; simp [go_sem]
  have hm0 : MapW W1 w.heap.size [] := (MapW.made w).below (by rw [← hW1]; exact ((Below.refl _ _).alloc (Nat.le_refl _) _).alloc (by simp) _)
  rw [hW1]
  clear hW1
  have hcW := hc.below hbW
  have hlow : ∀ k, (l ≠ [] ∧ ∃ o, A = some ⟨k, o, none⟩) → k < w.heap.size := by
    rintro k ⟨hne, o, rfl⟩
    obtain ⟨g, o2, e, hat⟩ := hc hne
    cases e
    obtain ⟨q, hq⟩ : ∃ q, l[0]? = some q := ⟨_, List.getElem?_eq_getElem (List.length_pos_iff.2 hne)⟩
    exact Lib.lt_of_cell (hat 0 q hq 0 _ rfl)
  refine wp_range (gf := 50) (lb := #[.pointer (some ⟨w.heap.size + 1 + 1, 0, none⟩)]) rfl (enters_of Tryd.func50 (by kernel_rfl) rfl)
    (back_yields (Nat.le_of_lt hl) hs0 hcW) (Below.refl _ _) (fun x args h => by obtain ⟨i, rfl⟩ := h; rfl)
    (fun k => k = w.heap.size) (by rintro k rfl; exact ⟨by omega, by rintro (h | h); omega; have := hlow _ h; omega⟩) (by rintro k (rfl | h); omega; have := hlow _ h; omega)
    (fun i V => V.cell? ⟨w.heap.size + 1, 0, none⟩ = some (.map (some w.heap.size)) ∧ MapW V w.heap.size (l.drop (l.length - i))) (fun _ _ => False)
    (fun i A B hab ⟨h1, h2⟩ => ⟨(hab.cell (p := ⟨w.heap.size + 1, 0, none⟩) (by show w.heap.size + 1 < _; omega)).trans h1, h2.block (hab.block _ (by omega))⟩)
    (fun _ _ _ _ h => h) ⟨hk0, by rw [Nat.sub_zero, List.drop_length]; exact hm0⟩
    (fun q a' V => ∃ (Bx : Nat) (i : Int), W1.heap.size ≤ Bx ∧ C3 V Bx q ∧ a' = { tmps := #[.slice A l.length cap, undef, .map none, .pointer (some ⟨w.heap.size + 1, 0, none⟩), undef, .pointer (some ⟨Bx, 0, none⟩), .map (some w.heap.size), .slice A l.length cap, .func (.func 50) #[] #[.pointer (some ⟨w.heap.size + 1 + 1, 0, none⟩)], .int .i64 i, .agg #[.int .i64 q.c, .int .i64 q.r, .int .i64 q.w], undef, undef, undef, undef, undef, undef], defers := [] })
    (fun x a' V l' r o hl ⟨Bx, i, h1, h2, h3⟩ => ⟨Bx, i, h1, by
      have hne : Bx ≠ l' := by rintro rfl; have := h2.1; simp [World.cell?, hl] at this
      obtain ⟨c0, c1, c2⟩ := h2
      exact ⟨by rw [World.cell?_of_block (w := V) (putObj_other o hne)]; exact c0, by rw [World.cell?_of_block (w := V) (putObj_other o hne)]; exact c1, by rw [World.cell?_of_block (w := V) (putObj_other o hne)]; exact c2⟩, h3⟩)
    ?assign ?body ?done ?stop
  case assign =>
    rintro l' i x args V K hx ⟨ix, rfl⟩ hz hK
    gi_wp2
    exact hK _ _ ((Below.refl _ _).alloc (Nat.le_refl _) _) ⟨V.heap.size, ix, hz, ⟨by simp [go_sem], by simp [go_sem], by simp [go_sem]⟩, rfl⟩
  case body =>
    rintro l' i q a' V hx hsV ⟨hkV, hmV⟩ ⟨Bx, ix, hBx, ⟨c0, c1, c2⟩, rfl⟩
    have hq := hb q (List.mem_reverse.1 (List.mem_of_getElem? hx))
    obtain ⟨w4, hrun4, hM4, hg4⟩ := hmV.put (by rw [List.length_drop]; omega) hq
    rw [← drop_back hx] at hM4
    have hk4 : w4.cell? ⟨w.heap.size + 1, 0, none⟩ = some (.map (some w.heap.size)) := (hg4.cell_far ⟨w.heap.size + 1, 0, none⟩ (by have := hsV.size; show w.heap.size + 1 < _; omega) (fun e => by have := Option.some.inj e; have h2 : w.heap.size + 1 = w.heap.size := this; omega)).trans hkV
    have hs4 : Sav (fun k => k = w.heap.size) V w4 := ⟨hg4.os, hg4.tape, hg4.output, hg4.size, fun k hk hn => hg4.block k hk fun e => hn (Option.some.inj e)⟩
    clear hmV hg4 hx
    gi_wp2
    exact ⟨hs4, hk4, hM4⟩
  case done =>
    rintro D V hD hsV ⟨hkV, hmV⟩ hK
    rw [List.length_reverse, Nat.sub_self, List.drop_zero] at hmV
    gi_wp2
    refine ⟨by simp, .inl ⟨_, _, rfl, run_takeDeferred hK, ?_⟩⟩
    refine ⟨_, results_tmp rfl _ _ _, _, rfl, hmV.block (putObj_other _ (by omega)), by rw [World.putObj_size]; have := hsV.size; omega, ?_⟩
    exact hbW.trans ((hsV.putObj (.inr (by omega)) _).below (fun k hk h => by have h2 : k = w.heap.size := h; omega) (by omega))
  case stop =>
    rintro D c V hD hsV h hK
    exact h.elim
end Go.Proofs.YthaoalmhhgllmaaDoor
namespace Go.Proofs.YthaoalmhhgllmaaDoor
open Go.RowKit
theorem parT {w w1 : World} {v0 v1 v2 v3 v4 v5 v6 v7 : Value} (hb : Below (w.heap.size + 1) (w.alloc (.cells #[v0, v1, v2, v3, v4, v5, v6, v7] 29)) w1) :
    (w1.cell? ⟨w.heap.size, 0, none⟩ = some v0 ∧ w1.cell? ⟨w.heap.size, 1, none⟩ = some v1 ∧ w1.cell? ⟨w.heap.size, 2, none⟩ = some v2 ∧ w1.cell? ⟨w.heap.size, 3, none⟩ = some v3 ∧ w1.cell? ⟨w.heap.size, 4, none⟩ = some v4 ∧ w1.cell? ⟨w.heap.size, 5, none⟩ = some v5 ∧ w1.cell? ⟨w.heap.size, 6, none⟩ = some v6 ∧ w1.cell? ⟨w.heap.size, 7, none⟩ = some v7) ∧ w.heap.size < w1.heap.size ∧ Below w.heap.size w w1 := by
  have hs := hb.size
  simp at hs
  refine ⟨⟨?_, ?_, ?_, ?_, ?_, ?_, ?_, ?_⟩, by omega, ((Below.refl _ _).alloc (Nat.le_refl _) _).trans (hb.mono (by omega))⟩ <;> (rw [hb.cell (by simp)]; simp [go_sem])
theorem ret_ib {a b : Int} {s u : Bool} (h : a = b) (k : s = u) : Ending.returned (.tuple #[.int .i64 a, .bool s]) = .returned (.tuple #[.int .i64 b, .bool u]) := by rw [h, k]
theorem cst_b : ∀ (t : Tr) (s : Int), mayB t = true → cstT t = some s → -1 ≤ s ∧ s ≤ 1
  | .mk k n c r d s' w ks, s, hm, hs => by
    rw [cstT] at hs
    by_cases k0 : k = 0
    · subst k0
      rw [if_pos rfl] at hs
      rw [mayB, if_pos rfl] at hm
      have h0 : 0 ≤ n := of_decide_eq_true (Bool.and_eq_true _ _ ▸ hm).2
      injection hs with hs
      omega
    · rw [if_neg k0] at hs
      by_cases k3 : k = 3
      · subst k3
        rw [if_pos rfl] at hs
        match ks, hm, hs with
        | [], _, hs => rw [cstL] at hs; cases hs
        | u :: us, hm, hs =>
          rw [cstL] at hs
          cases hu : cstT u with
          | none => rw [hu] at hs; cases hs
          | some z =>
            rw [hu] at hs
            have hs : -z = s := Option.some.inj hs
            have := cst_b u z (may_kids hm u (List.mem_cons_self ..)) hu
            omega
      · rw [if_neg k3] at hs; cases hs
end Go.Proofs.YthaoalmhhgllmaaDoor
namespace Go.Proofs.YthaoalmhhgllmaaDoor
open Go.RowKit
def opB (w : List UInt8) (a b M N : Int) (m n : Bool) : Int :=
  if w = [43] then joinW a b
  else if w = [45] ∨ w = [62] ∨ w = [62, 61] then joinW a (flipW b)
  else if w = [60] ∨ w = [60, 61] then flipW (joinW a (flipW b))
  else if w = [42] then (if n = true then byW a N else if m = true then byW b M else stW a b)
  else if w = [47] then (if n = true then (if N = 0 then stW a b else byW a N) else stW a b)
  else stW a b
theorem opW_B (w : List UInt8) (a b : Int) (p q : Option Int) : opW w a b p q = opB w a b (p.getD 0) (q.getD 0) p.isSome q.isSome := by
  unfold opW opB
  cases p <;> cases q <;> rfl
end Go.Proofs.YthaoalmhhgllmaaDoor
namespace Go.Proofs.YthaoalmhhgllmaaDoor
open Go.RowKit
theorem joinL_at {l : List Kno} {C : List (Int × Int)} {k : Nat} {x y : Int} (h : C[k]? = some (x, y)) : joinL ((C.take (k + 1)).map fun p => wAt p.1 p.2 l) = joinW (joinL ((C.take k).map fun p => wAt p.1 p.2 l)) (wAt x y l) := by
  rw [List.take_add_one, h, List.map_append]
  exact joinL_snoc _ _
end Go.Proofs.YthaoalmhhgllmaaDoor
namespace Go.Proofs.YthaoalmhhgllmaaDoor
open Go.RowKit
mutual
def cnT : Tr → Option Int
  | .mk k n _ _ _ _ _ ks => if k = 0 then some n else if k = 3 then (cnL ks).map fun z => -z else none
def cnL : List Tr → Option Int
  | [] => none
  | t :: _ => cnT t
end
def KstC (t : Tr) : Prop := ∀ (w : World) (P : Nat → Prop) (A : Option Addr) (cap : Nat), KV w P t A →
  Calls Tryd.prog 52 #[.agg #[.int .i64 t.kind, .int .i64 t.num, .int .i64 t.c1, .int .i64 t.r1, .int .i64 t.c2, .int .i64 t.r2, .string ⟨t.word.toArray⟩, .slice A t.kids.length cap]] w fun e w' => e = .returned (.tuple #[.int .i64 ((cnT t).getD 0), .bool (cnT t).isSome]) ∧ Below w.heap.size w w'
set_option maxHeartbeats 4000000 in
set_option maxRecDepth 10000 in
theorem kst_0 (t : Tr) (h : t.kind = 0) : KstC t := by
  intro w P A cap _
  have HE : Hid (cnT t = some t.num) := Lib.hid (by obtain ⟨k, n, c, r, d, s, wd, ks⟩ := t; rw [cnT]; exact if_pos h)
  have s0 : (t.kind == 0) = true := by rw [h]; rfl
  clear h
  go_enter Tryd.func52, Tryd.ntmps52
  go_wp2_with fail
  go_ret2
  exact ⟨ret_ib (by rw [HE.out]; rfl) (by rw [HE.out]; rfl), (Below.refl _ _).alloc (Nat.le_refl _) _⟩
set_option maxHeartbeats 4000000 in
set_option maxRecDepth 10000 in
theorem kst_no (t : Tr) (h0 : t.kind ≠ 0) (h3 : t.kind ≠ 3) : KstC t := by
  intro w P A cap _
  have HE : Hid (cnT t = none) := Lib.hid (by obtain ⟨k, n, c, r, d, s, wd, ks⟩ := t; rw [cnT]; rw [if_neg (show ¬ k = 0 from h0)]; exact if_neg h3)
  have s0 : (t.kind == 0) = false := by rw [beq_eq_false_iff_ne]; exact h0
  have s3 : (t.kind == 3) = false := by rw [beq_eq_false_iff_ne]; exact h3
  clear h0 h3
  go_enter Tryd.func52, Tryd.ntmps52
  go_wp2_with fail
  go_ret2
  exact ⟨ret_ib (by rw [HE.out]; rfl) (by rw [HE.out]; rfl), (Below.refl _ _).alloc (Nat.le_refl _) _⟩
theorem kst_b : ∀ (t : Tr) (s : Int), mayB t = true → Fit t → cnT t = some s → -9223372036854775807 ≤ s ∧ s ≤ 9223372036854775807
  | .mk k n c r d s' w ks, s, hm, .mk hn hf, hs => by
    rw [cnT] at hs
    by_cases k0 : k = 0
    · subst k0
      rw [if_pos rfl] at hs
      rw [mayB, if_pos rfl] at hm
      have h0 : 0 ≤ n := of_decide_eq_true (Bool.and_eq_true _ _ ▸ hm).2
      injection hs with hs
      omega
    · rw [if_neg k0] at hs
      by_cases k3 : k = 3
      · subst k3
        rw [if_pos rfl] at hs
        match ks, hm, hs, hf with
        | [], _, hs, _ => rw [cnL] at hs; cases hs
        | u :: us, hm, hs, hf =>
          rw [cnL] at hs
          cases hu : cnT u with
          | none => rw [hu] at hs; cases hs
          | some z =>
            rw [hu] at hs
            have hs : -z = s := Option.some.inj hs
            have := kst_b u z (may_kids hm u (List.mem_cons_self ..)) (hf u (List.mem_cons_self ..)) hu
            omega
      · rw [if_neg k3] at hs; cases hs
set_option maxHeartbeats 4000000 in
set_option maxRecDepth 10000 in
theorem kst_3 (t a : Tr) (hlen : t.kids.length ≤ 1000000) (h : t.kind = 3) (h0 : t.kids[0]? = some a) (hm : mayB a = true) (hf : Fit a) (ih : KstC a) : KstC t := by
  intro w P A cap hk
  have HE : Hid (cnT t = (cnT a).map fun z => -z) := Lib.hid (by
    obtain ⟨k, n, c, r, d, s, wd, ks⟩ := t
    have e : k = 3 := h
    subst e
    match ks, h0 with
    | u :: us, h0 => simp [Tr.kids] at h0; subst h0; rw [cnT, if_neg (by decide), if_pos rfl, cnL])
  have hbd : -9223372036854775807 ≤ (cnT a).getD 0 ∧ (cnT a).getD 0 ≤ 9223372036854775807 := by
    cases hc : cnT a with
    | none => exact ⟨by decide, by decide⟩
    | some z => exact kst_b a z hm hf hc
  have s0 : (t.kind == 0) = false := by rw [h]; rfl
  have s3 : (t.kind == 3) = true := by rw [h]; rfl
  obtain ⟨g, o, rfl⟩ := hk.addr h0
  have HK := Lib.hid hk
  have Ha := Lib.hid h0
  have l0 : 0 < t.kids.length := (List.getElem?_eq_some_iff.1 h0).1
  have hb0 : Below (w.heap.size + 1) (w.alloc (.cells #[.int .i64 t.kind, .int .i64 t.num, .int .i64 t.c1, .int .i64 t.r1, .int .i64 t.c2, .int .i64 t.r2, .string ⟨t.word.toArray⟩, .slice (some ⟨g, o, none⟩) t.kids.length cap] 29)) (w.alloc (.cells #[.int .i64 t.kind, .int .i64 t.num, .int .i64 t.c1, .int .i64 t.r1, .int .i64 t.c2, .int .i64 t.r2, .string ⟨t.word.toArray⟩, .slice (some ⟨g, o, none⟩) t.kids.length cap] 29)) := Below.refl _ _
  obtain ⟨⟨k0, k1, k2, k3, k4, k5, k6, k7⟩, kz, kb⟩ := parT hb0
  obtain ⟨hga, Aa, ca, ⟨q0, q1, q2, q3, q4, q5, q6, q7⟩, hka⟩ := HK.out.kidAt kb Ha.out
  simp only [Nat.zero_mul, Nat.add_zero] at q0 q1 q2 q3 q4 q5 q6 q7
  have HC0 := Lib.hid (ih _ _ Aa ca hka)
  clear hk h h0 ih hka hga hm hf
  clear k0 k1 k2 k3 k4 k5 k6 k7
  have HX : Hid ((cnT t).getD 0 = -((cnT a).getD 0) ∧ (cnT t).isSome = (cnT a).isSome) := Lib.hid (by rw [HE.out]; cases cnT a <;> exact ⟨rfl, rfl⟩)
  generalize (cnT a).getD 0 = X at *
  generalize (cnT a).isSome = Y at *
  go_enter Tryd.func52, Tryd.ntmps52
  go_wp2_with fail
  refine Calls.mono HC0.out ?_; rintro e w1 ⟨rfl, b1⟩
  have hb1 := kb.trans (b1.mono (by simp))
  clear b1 q0 q1 q2 q3 q4 q5 q6 q7 kb kz hb0
  have hw : IntKind.i64.wrap (-X) = -X := IntWalk.i64_in _ (by omega)
  go_wp2_with fail
  go_ret2
  exact ⟨ret_ib HX.out.1.symm HX.out.2.symm, hb1⟩
theorem kst_any : ∀ {t : Tr}, Wid t → GE t → KstC t := by
  intro t hW
  induction hW with
  | @mk k n c r d s w ks hlw _ ih =>
    intro ge
    by_cases k0 : k = 0
    · subst k0
      exact kst_0 _ rfl
    · by_cases k3 : k = 3
      · obtain ⟨a, ha⟩ := kids_3 ge.may (show (Tr.mk k n c r d s w ks).kind = 3 from k3)
        have ha : ks = [a] := ha
        subst ha
        exact kst_3 _ a ge.len k3 rfl (ge.kid (List.mem_cons_self ..)).may (ge.kid (List.mem_cons_self ..)).fit (ih a (by simp) (ge.kid (List.mem_cons_self ..)))
      · exact kst_no _ k0 k3
def SgE : Option Int → Option Int → Prop
  | none, none => True
  | some a, some b => (a < 0 ↔ b < 0) ∧ (a = 0 ↔ b = 0)
  | _, _ => False
theorem sg_cst : ∀ t : Tr, mayB t = true → SgE (cstT t) (cnT t)
  | .mk k n c r d s' w ks, hm => by
    rw [cstT, cnT]
    by_cases k0 : k = 0
    · subst k0
      rw [if_pos rfl, if_pos rfl]
      rw [mayB, if_pos rfl] at hm
      have h0 : 0 ≤ n := of_decide_eq_true (Bool.and_eq_true _ _ ▸ hm).2
      show (min n 1 < 0 ↔ n < 0) ∧ (min n 1 = 0 ↔ n = 0)
      omega
    · rw [if_neg k0, if_neg k0]
      by_cases k3 : k = 3
      · subst k3
        rw [if_pos rfl, if_pos rfl]
        match ks, hm with
        | [], _ => rw [cstL, cnL]; trivial
        | u :: us, hm =>
          have ih := sg_cst u (may_kids hm u (List.mem_cons_self ..))
          have hb := fun z (h : cstT u = some z) => cst_b u z (may_kids hm u (List.mem_cons_self ..)) h
          rw [cstL, cnL]
          cases h1 : cstT u with
          | none =>
            cases h2 : cnT u with
            | none => trivial
            | some b => rw [h1, h2] at ih; exact ih.elim
          | some a =>
            cases h2 : cnT u with
            | none => rw [h1, h2] at ih; exact ih.elim
            | some b =>
              rw [h1, h2] at ih
              have ih : (a < 0 ↔ b < 0) ∧ (a = 0 ↔ b = 0) := ih
              show (-a < 0 ↔ -b < 0) ∧ (-a = 0 ↔ -b = 0)
              omega
      · rw [if_neg k3, if_neg k3]; trivial
theorem sg_by {x a b : Int} (h : a < 0 ↔ b < 0) : byW x a = byW x b := by
  unfold byW
  by_cases ha : a < 0
  · rw [if_pos ha, if_pos (h.1 ha)]
  · rw [if_neg ha, if_neg fun hb => ha (h.2 hb)]
theorem sg_op {w : List UInt8} {x y : Int} {p p' q q' : Option Int} (hp : SgE p p') (hq : SgE q q') : opW w x y p q = opW w x y p' q' := by
  unfold opW
  cases p with
  | none =>
    cases p' with
    | some b => exact hp.elim
    | none =>
      cases q with
      | none =>
        cases q' with
        | some b => exact hq.elim
        | none => rfl
      | some c =>
        cases q' with
        | none => exact hq.elim
        | some d =>
          have hq : (c < 0 ↔ d < 0) ∧ (c = 0 ↔ d = 0) := hq
          have e : byW x c = byW x d := sg_by hq.1
          simp only [e, hq.2]
  | some a =>
    cases p' with
    | none => exact hp.elim
    | some b =>
      have hp : (a < 0 ↔ b < 0) ∧ (a = 0 ↔ b = 0) := hp
      have e1 : byW y a = byW y b := sg_by hp.1
      cases q with
      | none =>
        cases q' with
        | some b => exact hq.elim
        | none => simp only [e1]
      | some c =>
        cases q' with
        | none => exact hq.elim
        | some d =>
          have hq : (c < 0 ↔ d < 0) ∧ (c = 0 ↔ d = 0) := hq
          have e : byW x c = byW x d := sg_by hq.1
          simp only [e, hq.2]
end Go.Proofs.YthaoalmhhgllmaaDoor
namespace Go.Proofs.YthaoalmhhgllmaaDoor
theorem hasB_iff (a b c d x y : Int) : hasB a b c d x y = true ↔ wholeB a b c d = true ∧ a ≤ x ∧ x ≤ c ∧ b ≤ y ∧ y ≤ d := by
  unfold hasB; simp
end Go.Proofs.YthaoalmhhgllmaaDoor
namespace Go.Proofs.YthaoalmhhgllmaaDoor
open Go.RowKit
theorem cellsTo_skip {a b c d : Int} {i : Nat} : ∀ n : Nat, (∀ j, i ≤ j → j < i + n → hasB a b c d (atC (j : Int)) (atR (j : Int)) = false) → cellsTo a b c d (i + n) = cellsTo a b c d i
  | 0, _ => rfl
  | n + 1, h => by
    have h1 := cellsTo_skip (a := a) (b := b) (c := c) (d := d) (i := i) n fun j h1 h2 => h j h1 (by omega)
    rw [← h1]
    exact cellsTo_no (h (i + n) (by omega) (by omega))
theorem cellsTo_eq {a b c d : Int} {i k : Nat} (hk : i ≤ k) (h : ∀ j, i ≤ j → j < k → hasB a b c d (atC (j : Int)) (atR (j : Int)) = false) : cellsTo a b c d i = cellsTo a b c d k := by
  obtain ⟨n, rfl⟩ := Nat.exists_eq_add_of_le hk
  exact (cellsTo_skip n h).symm
theorem has_not {a b c d : Int} {j : Nat} (hj : j < 1024) (h : ¬ (a ≤ (j : Int) % 16 ∧ (j : Int) % 16 ≤ c ∧ b ≤ (j : Int) / 16 ∧ (j : Int) / 16 ≤ d)) : hasB a b c d (atC (j : Int)) (atR (j : Int)) = false := by
  rw [atC_of j hj, atR_of j hj]
  cases hx : hasB a b c d ((j : Int) % 16) ((j : Int) / 16) with
  | false => rfl
  | true => exact absurd ((hasB_iff _ _ _ _ _ _).1 hx).2 h
theorem cells_none {a b c d : Int} (hw : wholeB a b c d = false) : cellsTo a b c d 1024 = [] := by
  refine (cellsTo_eq (i := 0) (Nat.zero_le _) fun j _ _ => ?_).symm
  unfold hasB
  rw [hw, Bool.false_and]

set_option maxHeartbeats 400000 in
theorem pcells_no (a b c d : Int) (w : World) (hW : wholeB a b c d = false) :
    Calls Tryd.prog 51 #[.agg #[.int .i64 a, .int .i64 b, .int .i64 c, .int .i64 d]] w fun e w' => ∃ v, e = .returned v ∧
      w'.ownsRow w.heap.size 24 2 v (cellsTo a b c d 1024).length (cells2 (cellsTo a b c d 1024)) ∧ Below w.heap.size w w' := by
  have HC := Lib.hid (cells_none hW)
  have HW := Lib.hid (pwhole_any a b c d)
  rw [hW] at HW
  rw [HC.out]
  clear hW
  go_enter Tryd.func51, Tryd.ntmps51
  go_wp2_with fail
  refine (HW.out _).mono ?_; rintro e w1 ⟨rfl, b1⟩
  have h1 : Below w.heap.size w w1 := ((Below.refl _ _).alloc (Nat.le_refl _) _).trans (b1.mono (by simp))
  clear b1
  go_wp2_with fail
  go_ret
  exact ⟨_, rfl, World.ownsRow_nil _ _ _ _, h1⟩

set_option maxHeartbeats 2000000 in
set_option maxRecDepth 10000 in
theorem pcells_yes (a b c d : Nat) (w : World) (hW : wholeB a b c d = true) :
    Calls Tryd.prog 51 #[.agg #[.int .i64 a, .int .i64 b, .int .i64 c, .int .i64 d]] w fun e w' => ∃ v, e = .returned v ∧
      w'.ownsRow w.heap.size 24 2 v (cellsTo a b c d 1024).length (cells2 (cellsTo a b c d 1024)) ∧ Below w.heap.size w w' := by
  obtain ⟨i0, hi0, hz0, hz1, hz2⟩ := info_parts place_info
  have HI := Lib.hid hi0
  have HZ0 := Lib.hid hz0
  have HZ1 := Lib.hid hz1
  have HZ2 := Lib.hid hz2
  clear hi0 hz0 hz1 hz2
  have HW := Lib.hid (pwhole_any a b c d)
  have hq := (wholeB_iff _ _ _ _).1 hW
  have Hhas : Hid (∀ j : Nat, j < 1024 → (a : Int) ≤ (j : Int) % 16 → (j : Int) % 16 ≤ c → (b : Int) ≤ (j : Int) / 16 → (j : Int) / 16 ≤ d → hasB a b c d (atC (j : Int)) (atR (j : Int)) = true) :=
    Lib.hid fun j hj h1 h2 h3 h4 => by rw [atC_of j hj, atR_of j hj]; exact (hasB_iff _ _ _ _ _ _).2 ⟨hW, h1, h2, h3, h4⟩
  rw [hW] at HW
  clear hW
  have ha : a ≤ 15 := by omega
  have hb : b ≤ 63 := by omega
  have hc : c ≤ 15 := by omega
  have hd : d ≤ 63 := by omega
  have hac : a ≤ c := by omega
  have hbd : b ≤ d := by omega
  clear hq
  have HE0 : Hid (cellsTo a b c d (16 * b) = []) := Lib.hid (cellsTo_eq (i := 0) (Nat.zero_le _) fun j _ h2 => has_not (by omega) (by omega)).symm
  have HEd : Hid (cellsTo a b c d (16 * (d + 1)) = cellsTo a b c d 1024) := Lib.hid (cellsTo_eq (by omega) fun j h1 h2 => has_not (by omega) (by omega))
  have HEs : Hid (∀ row : Nat, b ≤ row → row ≤ d → cellsTo a b c d (16 * row) = cellsTo a b c d (16 * row + a)) := Lib.hid fun row h1 h2 => cellsTo_eq (by omega) fun j h3 h4 => has_not (by omega) (by omega)
  have HEe : Hid (∀ row : Nat, b ≤ row → row ≤ d → cellsTo a b c d (16 * row + (c + 1)) = cellsTo a b c d (16 * (row + 1))) := Lib.hid fun row h1 h2 => cellsTo_eq (by omega) fun j h3 h4 => has_not (by omega) (by omega)
  have HEy : Hid (∀ row col : Nat, b ≤ row → row ≤ d → a ≤ col → col ≤ c → cellsTo a b c d (16 * row + (col + 1)) = cellsTo a b c d (16 * row + col) ++ [((col : Int), (row : Int))]) := Lib.hid fun row col h1 h2 h3 h4 => by
    have hj : 16 * row + col < 1024 := by omega
    have h := cellsTo_yes (Hhas.out (16 * row + col) hj (by omega) (by omega) (by omega) (by omega))
    rw [atC_of _ hj, atR_of _ hj] at h
    have e1 : ((16 * row + col : Nat) : Int) % 16 = (col : Int) := by omega
    have e2 : ((16 * row + col : Nat) : Int) / 16 = (row : Int) := by omega
    rw [e1, e2] at h
    exact h
  clear Hhas
  go_enter Tryd.func51, Tryd.ntmps51
  go_wp2_with fail
  refine (HW.out _).mono ?_; rintro e w1 ⟨rfl, b1⟩
  have j0 := keep_fresh b1 0 (v := .int .i64 a) rfl
  have j1 := keep_fresh b1 1 (v := .int .i64 b) rfl
  have j2 := keep_fresh b1 2 (v := .int .i64 c) rfl
  have j3 := keep_fresh b1 3 (v := .int .i64 d) rfl
  have h1 : Below w.heap.size w w1 := ((Below.refl _ _).alloc (Nat.le_refl _) _).trans (b1.mono (by simp))
  clear b1
  go_wp2_with fail
  go_loopw [3, 4] (fun v n wr => ∃ row : Nat, b ≤ row ∧ row ≤ d + 1 ∧ n = .int .i64 row ∧ wr.ownsRow w1.heap.size 24 2 v (cellsTo a b c d (16 * row)).length (cells2 (cellsTo a b c d (16 * row))) ∧
      Below w1.heap.size w1 wr) (fun _ n _ => leftG n)
  case atStart => exact ⟨b, Nat.le_refl _, by omega, rfl, by rw [HE0.out]; exact World.ownsRow_nil _ _ _ _, Below.refl _ _⟩
  case round =>
    obtain ⟨row, hr0, hr1, rfl, hown, hb0⟩ := hrel
    have HO := Lib.hid hown
    have HB := Lib.hid hb0
    have k0 := keep_cell hb0 j0
    have k2 := keep_cell hb0 j2
    have k3 := keep_cell hb0 j3
    clear hown hb0
    by_cases hlt : row ≤ d
    · have HES := Lib.hid (HEs.out row hr0 hlt)
      have HEE := Lib.hid (HEe.out row hr0 hlt)
      go_wp2_with fail
      go_loopw [3, 5] (fun v n wq => ∃ col : Nat, a ≤ col ∧ col ≤ c + 1 ∧ n = .int .i64 col ∧ wq.ownsRow w1.heap.size 24 2 v (cellsTo a b c d (16 * row + col)).length (cells2 (cellsTo a b c d (16 * row + col))) ∧
          Below w1.heap.size w1 wq) (fun _ n _ => leftG n)
      case atStart => exact ⟨a, Nat.le_refl _, by omega, rfl, by rw [← HES.out]; exact HO.out, HB.out⟩
      case round =>
        obtain ⟨col, hc0, hc1, rfl, hown, hb0⟩ := hrel
        have HO2 := Lib.hid hown
        have HB2 := Lib.hid hb0
        have hlen := cellsTo_le a b c d (16 * row + col)
        have m2 := keep_cell hb0 j2
        have zq := hb0.size
        clear hown hb0
        by_cases hle : col ≤ c
        · have HY := Lib.hid (HEy.out row col hr0 hlt hc0 hle)
          go_wp2_with (at_builtin
                       refine wpList_append_own _ rfl _ _ 90 rfl w1.heap.size 24 i0 (.agg #[.int .i64 0, .int .i64 0]) 2 16 Tryd.underlying90 HI.out HZ0.out HZ1.out HZ2.out rfl (by decide) _ _ _ rfl (HO2.out.alloc _)
                         ⟨wr.heap.size, 0, none⟩ 1 1 [.int .i64 col, .int .i64 row] rfl rfl ?c1 ?c2 ?c3 ?c4 ?c5 ?_)
          case c1 =>
            intro j u hj
            match j, hj with
            | 0, hj => simp at hj; subst hj; simp [Addr.add]
            | 1, hj => simp at hj; subst hj; simp [Addr.add]
          case c2 => intro u hu; simp at hu; rcases hu with rfl | rfl <;> rfl
          case c3 => unfold maxLen; omega
          case c4 => omega
          case c5 => simp; omega
          intro v' w4 hown4 hg4 _
          rw [← cells2_snoc] at hown4
          have e5 : (cellsTo a b c d (16 * row + col)).length + 1 = (cellsTo a b c d (16 * row + (col + 1))).length := by rw [HY.out]; simp
          rw [e5, ← HY.out] at hown4
          have HO4 := Lib.hid hown4
          clear hown4 e5
          have hb4 : Below w1.heap.size w1 w4 := (HB2.out.alloc zq _).grown hg4 (by simp; omega) (fun g hgg => (HO2.out.lt g hgg).1)
          clear hg4
          go_wp2_with fail
          go_roundw
          case rel => exact ⟨col + 1, by omega, by omega, by go_num, HO4.out, hb4⟩
          case measure => simp [leftG, intOf]; omega
        · have hce : col = c + 1 := by omega
          subst hce
          have HO3 : Hid (wr.ownsRow w1.heap.size 24 2 _ (cellsTo a b c d (16 * (row + 1))).length (cells2 (cellsTo a b c d (16 * (row + 1))))) := Lib.hid (by rw [← HEE.out]; exact HO2.out)
          go_wp2_with fail
          go_roundw
          case rel => exact ⟨row + 1, by omega, by omega, by go_num, HO3.out, HB2.out⟩
          case measure => simp [leftG, intOf]; omega
    · have hre : row = d + 1 := by omega
      subst hre
      have HO3 : Hid (wr.ownsRow w1.heap.size 24 2 _ (cellsTo a b c d 1024).length (cells2 (cellsTo a b c d 1024))) := Lib.hid (by rw [← HEd.out]; exact HO.out)
      have h2 := h1.trans (HB.out.mono h1.size)
      have hz := h1.size
      go_wp2_with fail
      go_ret
      exact ⟨_, rfl, HO3.out.mono hz, h2⟩

theorem pcells_any (a b c d : Int) (w : World) :
    Calls Tryd.prog 51 #[.agg #[.int .i64 a, .int .i64 b, .int .i64 c, .int .i64 d]] w fun e w' => ∃ v, e = .returned v ∧
      w'.ownsRow w.heap.size 24 2 v (cellsTo a b c d 1024).length (cells2 (cellsTo a b c d 1024)) ∧ Below w.heap.size w w' := by
  cases hW : wholeB a b c d with
  | false => exact pcells_no a b c d w hW
  | true =>
    have hq := (wholeB_iff _ _ _ _).1 hW
    obtain ⟨a', rfl⟩ := Int.eq_ofNat_of_zero_le hq.1.1
    obtain ⟨b', rfl⟩ := Int.eq_ofNat_of_zero_le hq.1.2.2.1
    obtain ⟨c', rfl⟩ := Int.eq_ofNat_of_zero_le hq.2.1.1
    obtain ⟨d', rfl⟩ := Int.eq_ofNat_of_zero_le hq.2.1.2.2.1
    exact pcells_yes a' b' c' d' w hW
end Go.Proofs.YthaoalmhhgllmaaDoor
namespace Go.Proofs.YthaoalmhhgllmaaDoor
open Go.RowKit
theorem cells_b64 {a b c d : Int} {n : Nat} (hn : n ≤ 1024) : ∀ p ∈ cellsTo a b c d n, B64 p.1 ∧ B64 p.2 := by
  intro p hp
  unfold cellsTo at hp
  obtain ⟨j, hj, rfl⟩ := List.mem_map.1 hp
  have hj2 := List.mem_range.1 (List.mem_filter.1 hj).1
  unfold atC atR B64
  constructor <;> omega
theorem cells_one {c r : Int} (h : rightB c r = true) : cellsTo c r c r 1024 = [(c, r)] := by
  have hq : 0 ≤ c ∧ c ≤ 15 ∧ 0 ≤ r ∧ r ≤ 63 := of_decide_eq_true h
  obtain ⟨c', rfl⟩ := Int.eq_ofNat_of_zero_le hq.1
  obtain ⟨r', rfl⟩ := Int.eq_ofNat_of_zero_le hq.2.2.1
  have hlt : 16 * r' + c' < 1024 := by omega
  have h0 : cellsTo (c' : Int) r' c' r' 0 = cellsTo (c' : Int) r' c' r' (16 * r' + c') := cellsTo_eq (Nat.zero_le _) fun j _ hj => has_not (by omega) (by omega)
  have h1 : cellsTo (c' : Int) r' c' r' (16 * r' + c' + 1) = cellsTo (c' : Int) r' c' r' 1024 := cellsTo_eq (by omega) fun j hj _ => has_not (by omega) (by omega)
  have ec : atC ((16 * r' + c' : Nat) : Int) = c' := by unfold atC; rw [if_pos (by omega)]; omega
  have er : atR ((16 * r' + c' : Nat) : Int) = r' := by unfold atR; rw [if_pos (by omega)]; omega
  rw [← h1, cellsTo_yes (by
    rw [ec, er]
    unfold hasB wholeB
    rw [h]
    simp), ← h0, cellsTo_zero, ec, er]
  rfl
theorem wIn_one {l : List Kno} {c r : Int} (h : rightB c r = true) : wIn l c r c r = wAt c r l := by
  unfold wIn
  rw [cells_one h]
  show joinW 0 (wAt c r l) = _
  rw [joinW_z rfl]
  exact clean_ok (ok_wAt c r l)
theorem list2 {w : World} {g : Nat} {a b : Int} (h0 : w.cell? ⟨g, 0, none⟩ = some (.int .i64 a)) (h1 : w.cell? ⟨g, 1, none⟩ = some (.int .i64 b)) : ListI w (some ⟨g, 0, none⟩) [a, b] := fun _ => ⟨g, 0, rfl, fun i q hi j u hj => by
  match j, hj with
  | 0, hj =>
    simp at hj; subst hj
    match i, hi with
    | 0, hi => simp at hi; subst hi; simpa using h0
    | 1, hi => simp at hi; subst hi; simpa using h1⟩
theorem mjoin2 (a b : Int) (ha : OkW a) (A : Option Addr) (cap : Nat) (w : World) (hc : ListI w A [a, b]) : Calls Tryd.prog 10 #[.slice A 2 cap] w fun e w' => e = .returned (.int .i64 (joinW a (cleanW b))) ∧ Below w.heap.size w w' := by
  have h := mjoin_any [a, b] (by show 2 ≤ maxLen; unfold maxLen; omega) A cap w hc
  have e : joinL [a, b] = joinW a (cleanW b) := by
    show joinW (joinW 0 a) b = _
    rw [joinW_z rfl, clean_ok ha]
    have hk := clean_ok (ok_clean b)
    unfold joinW
    rw [hk]
  rw [e] at h
  exact h
set_option maxHeartbeats 4000000 in
set_option maxRecDepth 10000 in
theorem mwithin_any (l : List Kno) (b : Nat) (p0 p1 p2 p3 : Int) (w : World) (hm : MapW w b l) :
    Calls Tryd.prog 35 #[.map (some b), .agg #[.int .i64 p0, .int .i64 p1, .int .i64 p2, .int .i64 p3]] w fun e w' => e = .returned (.int .i64 (wIn l p0 p1 p2 p3)) ∧ Below w.heap.size w w' := by
  have HM := Lib.hid hm
  have HCl := Lib.hid (fun w => pcells_any p0 p1 p2 p3 w)
  have hcl := cellsTo_le p0 p1 p2 p3 1024
  have HB := Lib.hid (cells_b64 (a := p0) (b := p1) (c := p2) (d := p3) (n := 1024) (Nat.le_refl _))
  have HE : Hid (wIn l p0 p1 p2 p3 = joinL ((cellsTo p0 p1 p2 p3 1024).map fun p => wAt p.1 p.2 l)) := Lib.hid rfl
  generalize wIn l p0 p1 p2 p3 = R at *
  generalize cellsTo p0 p1 p2 p3 1024 = C at *
  clear hm
  go_enter Tryd.func35, Tryd.ntmps35
  go_wp2_with fail
  refine (HCl.out _).mono ?_; rintro e w1 ⟨v9, rfl, hown9, b1⟩
  obtain ⟨A9, cap9, rfl, hsh⟩ := own_shapeB hown9
  have HS := Lib.hid hsh
  have hb1 : Below w.heap.size w w1 := ((Below.refl _ _).alloc (Nat.le_refl _) _).trans (b1.mono (by simp))
  clear hsh hown9 b1 HCl
  go_wp2_with fail
  go_loopw [5, 11] (fun v n wr => ∃ k : Nat, k ≤ C.length ∧ n = .int .i64 (k : Int) ∧ v = .int .i64 (joinL ((C.take k).map fun p => wAt p.1 p.2 l)) ∧ Below w1.heap.size w1 wr) (fun _ n _ => C.length - (intOf n).toNat)
  case atStart => exact ⟨0, Nat.zero_le _, rfl, by rw [List.take_zero]; rfl, Below.refl _ _⟩
  case round =>
    obtain ⟨k, hk2, rfl, rfl, hb⟩ := hrel
    by_cases hlt : k < C.length
    · obtain ⟨x, y, hxy⟩ : ∃ x y, C[k]? = some (x, y) := ⟨_, _, List.getElem?_eq_getElem hlt⟩
      obtain ⟨g, rfl, hg1, hg2, hat⟩ := HS.out k hlt
      obtain ⟨a0, a1⟩ := at2_below hat hb hg2 k x y hxy
      have HT := Lib.hid (joinL_at (l := l) hxy)
      have HXY := Lib.hid (HB.out (x, y) (List.mem_of_getElem? hxy))
      have ho := ok_joinL ((C.take k).map fun p => wAt p.1 p.2 l)
      have HMw : Hid (∀ w', Below wr.heap.size wr w' → MapW w' b l) := Lib.hid fun w' h => (HM.out.below (hb1.trans (hb.mono hb1.size))).below h
      have HZ := Lib.hid (clean_wR x y l)
      generalize joinL ((C.take k).map fun p => wAt p.1 p.2 l) = Q at *
      have HJ := Lib.hid (fun z A cap w h => mjoin2 Q z ho A cap w h)
      obtain ⟨z, hz⟩ : ∃ z, wR x y l = z := ⟨_, rfl⟩
      rw [hz] at HZ
      have HV := Lib.hid hz
      have zs := hb.size
      clear hat hxy ho hz
      go_wp2_with (at_lookup; refine wpList_ways _ rfl _ _ rfl rfl (HMw.out _ (by repeat' (first | with_reducible exact Below.refl _ _ | with_reducible exact Nat.le_refl _ | with_reducible refine Below.alloc ?_ ?_ _))) HXY.out.1 HXY.out.2 rfl HV.out ?_)
      refine Calls.mono (HJ.out z _ _ _ (list2 (by simp [go_sem]) (by simp [go_sem]))) ?_; rintro e w3 ⟨rfl, b3⟩
      have hb3 : Below w1.heap.size w1 w3 := by
        refine Below.trans ?_ (b3.mono ?_)
        · repeat' (first | with_reducible assumption | exact Nat.le_succ _ | with_reducible refine Below.alloc ?_ ?_ _ | (simp; omega))
        · simp; omega
      clear b3 a0 a1
      go_wp2_with fail
      go_roundw
      case rel => exact ⟨k + 1, by omega, by go_num, by rw [HT.out, HZ.out], hb3⟩
      case measure => simp [intOf]; omega
    · have hkk : k = C.length := by omega
      subst hkk
      have HE2 : Hid (R = joinL ((C.take C.length).map fun p => wAt p.1 p.2 l)) := Lib.hid (by rw [HE.out, List.take_length])
      generalize joinL ((C.take C.length).map fun p => wAt p.1 p.2 l) = Q at *
      go_wp2_with fail
      go_ret
      exact ⟨ret_int HE2.out.symm, hb1.trans (hb.mono hb1.size)⟩
end Go.Proofs.YthaoalmhhgllmaaDoor
namespace Go.Proofs.YthaoalmhhgllmaaDoor
open Go.ChangeShapes Go.WideShapes Go.RowKit Go.Deep
section
variable {H : Type} {enc : TypeId × Value → H} {w : World} {base : Nat} {spare : Nat → Bool} {held : Bool}
set_option maxRecDepth 100000 in
set_option maxHeartbeats 2000000 in
theorem tree_of_trodC : ∀ (fuel : Nat) {cs : List Value} {x : DataW H × List MemPlace}, DataW.trod enc Tryd.prog w base spare held fuel 29 cs = some x →
    ∃ (t : Tr) (A : Option Addr) (cap : Nat), cs = [.int .i64 t.kind, .int .i64 t.num, .int .i64 t.c1, .int .i64 t.r1, .int .i64 t.c2, .int .i64 t.r2, .string ⟨t.word.toArray⟩, .slice A t.kids.length cap] ∧ KVc w (fun _ => True) t A cap ∧ Wid t ∧ Fit t := by
  intro fuel
  induction fuel using Nat.strongRecOn with
  | ind fuel ih =>
  intro cs x h
  obtain ⟨xs, n, rfl, rfl, hcl, hxl, hf⟩ := DataW.trod_struct Tryd.underlying29 h
  rw [cells_tree] at hcl
  obtain ⟨c0, c1, c2, c3, c4, c5, c6, c7, rfl⟩ : ∃ c0 c1 c2 c3 c4 c5 c6 c7, cs = [c0, c1, c2, c3, c4, c5, c6, c7] := by
    match cs, hcl with
    | [a, b, c, d, e, f, g, h], _ => exact ⟨a, b, c, d, e, f, g, h, rfl⟩
  match xs, hxl with
  | [y0, y1, y2, y3, y4], _ =>
  have g0 : DataW.trod enc Tryd.prog w base spare held n 22 [c0] = some y0 := by have := hf 0 _ rfl; rw [show ∀ z : TypeId, z = 22 → Tryd.prog.cellsOf z = 1 from fun z hz => by rw [hz]; exact cells_kind] at this; exact this; rfl
  have g1 : DataW.trod enc Tryd.prog w base spare held n 3 [c1] = some y1 := by have := hf 1 _ rfl; rw [show ∀ z : TypeId, z = 3 → Tryd.prog.cellsOf z = 1 from fun z hz => by rw [hz]; exact cells_int] at this; exact this; rfl
  have g2 : DataW.trod enc Tryd.prog w base spare held n 26 [c2, c3, c4, c5] = some y2 := by have := hf 2 _ rfl; rw [show ∀ z : TypeId, z = 26 → Tryd.prog.cellsOf z = 4 from fun z hz => by rw [hz]; exact cells_range] at this; exact this; rfl
  have g3 : DataW.trod enc Tryd.prog w base spare held n 9 [c6] = some y3 := by have := hf 3 _ rfl; rw [show ∀ z : TypeId, z = 9 → Tryd.prog.cellsOf z = 1 from fun z hz => by rw [hz]; exact cells_str] at this; exact this; rfl
  have g4 : DataW.trod enc Tryd.prog w base spare held n 27 [c7] = some y4 := by have := hf 4 _ rfl; rw [show ∀ z : TypeId, z = 27 → Tryd.prog.cellsOf z = 1 from fun z hz => by rw [hz]; exact cells_kids] at this; exact this; rfl
  clear h hf
  obtain ⟨k, e0, _, _⟩ := DataW.trod_int Tryd.underlying22 g0
  obtain ⟨m, e1, _, wm⟩ := DataW.trod_int Tryd.underlying3 g1
  obtain ⟨p0, p1, n2, _, _, h0, h1⟩ := trod_struct2 Tryd.underlying26 g2
  simp only [cells_place] at h0 h1
  obtain ⟨a, b, e2⟩ := trodPlace rfl h0
  obtain ⟨c, d, e3⟩ := trodPlace rfl h1
  obtain ⟨s, e4, _, _⟩ := DataW.trod_string Tryd.underlying9 g3
  simp at e0 e1 e2 e3 e4
  obtain ⟨rfl, rfl⟩ := e2
  obtain ⟨rfl, rfl⟩ := e3
  subst e0 e1 e4
  have hm := le_of_wf wm
  clear g0 g1 g2 g3 h0 h1
  rcases DataW.trod_slice Tryd.underlying27 g4 with ⟨e5, _⟩ | ⟨ad, len, cap, el, rs, n4, rfl, e5, _, _, hlc, hcm, hel, helem, _, _⟩
  · simp at e5
    subst e5
    exact ⟨.mk k m a b c d s.data.toList [], none, 0, by simp [Tr.kind, Tr.num, Tr.c1, Tr.r1, Tr.c2, Tr.r2, Tr.word, Tr.kids], KVc.mk' (Nat.le_refl _) (.inl rfl), .mk (Nat.zero_le _) (fun t ht => by cases ht), .mk hm (fun t ht => by cases ht)⟩
  · simp at e5
    subst e5
    have key : ∀ i, i < len → ∃ q : Tr × Option Addr × Nat, (w.cell? (ad.add (i * 8)) = some (.int .i64 q.1.kind) ∧ w.cell? (ad.add (i * 8 + 1)) = some (.int .i64 q.1.num) ∧ w.cell? (ad.add (i * 8 + 2)) = some (.int .i64 q.1.c1) ∧ w.cell? (ad.add (i * 8 + 3)) = some (.int .i64 q.1.r1) ∧
        w.cell? (ad.add (i * 8 + 4)) = some (.int .i64 q.1.c2) ∧ w.cell? (ad.add (i * 8 + 5)) = some (.int .i64 q.1.r2) ∧ w.cell? (ad.add (i * 8 + 6)) = some (.string ⟨q.1.word.toArray⟩) ∧ w.cell? (ad.add (i * 8 + 7)) = some (.slice q.2.1 q.1.kids.length q.2.2)) ∧ KVc w (fun _ => True) q.1 q.2.1 q.2.2 ∧ Wid q.1 ∧ Fit q.1 := by
      intro i hi
      have h1 := helem i hi
      rw [cells_tree] at h1
      obtain ⟨y, hy⟩ : ∃ y, el[i]? = some y := ⟨el[i]'(by omega), List.getElem?_eq_getElem (by omega)⟩
      rw [hy] at h1
      obtain ⟨ce, hce, hte⟩ := Option.bind_eq_some_iff.1 h1
      obtain ⟨t, A, ca, rfl, hk, hw, hfi⟩ := ih n4 (by omega) hte
      obtain ⟨_, _, hcell⟩ := World.cells?_some hce
      refine ⟨(t, A, ca), ⟨?_, ?_, ?_, ?_, ?_, ?_, ?_, ?_⟩, hk, hw, hfi⟩
      · have := hcell 0 (by omega); rw [add_add] at this; simpa using this
      · have := hcell 1 (by omega); rw [add_add] at this; simpa using this
      · have := hcell 2 (by omega); rw [add_add] at this; simpa using this
      · have := hcell 3 (by omega); rw [add_add] at this; simpa using this
      · have := hcell 4 (by omega); rw [add_add] at this; simpa using this
      · have := hcell 5 (by omega); rw [add_add] at this; simpa using this
      · have := hcell 6 (by omega); rw [add_add] at this; simpa using this
      · have := hcell 7 (by omega); rw [add_add] at this; simpa using this
    haveI : Inhabited (Tr × Option Addr × Nat) := ⟨(leaf0, none, 0)⟩
    obtain ⟨Q, hQ⟩ := choose_lt key
    have hlen : ((List.range len).map fun i => (Q i).1).length = len := by simp
    refine ⟨.mk k m a b c d s.data.toList ((List.range len).map fun i => (Q i).1), some ad, cap, by simp [Tr.kind, Tr.num, Tr.c1, Tr.r1, Tr.c2, Tr.r2, Tr.word, Tr.kids], KVc.mk' (by show ((List.range len).map fun i => (Q i).1).length ≤ cap; rw [hlen]; exact hlc) ?_, .mk (by rw [hlen]; omega) (fun t ht => ?_), .mk hm (fun t ht => ?_)⟩
    · by_cases hz : len = 0
      · left; subst hz; rfl
      · right
        obtain ⟨g, o, spot⟩ := ad
        have h00 := (hQ 0 (by omega)).1.1
        have hspot : spot = none := by simpa [Addr.add] using World.cell?_spot h00
        subst hspot
        refine ⟨g, o, rfl, trivial, ?_, KLc.of fun i t hi => ?_⟩
        · rw [add_plain] at h00
          exact Lib.lt_of_cell h00
        · have hi' : ((List.range len).map fun i => (Q i).1)[i]? = some t := hi
          have hlt : i < len := by
            have := (List.getElem?_eq_some_iff.1 hi').1
            simpa using this
          have hq : (Q i).1 = t := by simpa [hlt] using hi'
          obtain ⟨⟨q0, q1, q2, q3, q4, q5, q6, q7⟩, hk, _, _⟩ := hQ i hlt
          rw [add_plain] at q0 q1 q2 q3 q4 q5 q6 q7
          rw [hq] at q0 q1 q2 q3 q4 q5 q6 q7 hk
          refine ⟨(Q i).2.1, (Q i).2.2, ?_, hk⟩
          rw [Nat.mul_comm 8 i]
          exact ⟨q0, q1, q2, q3, q4, q5, q6, q7⟩
    · obtain ⟨i, hi, rfl⟩ := List.mem_map.1 ht
      exact (hQ i (by simpa using hi)).2.2.1
    · obtain ⟨i, hi, rfl⟩ := List.mem_map.1 ht
      exact (hQ i (by simpa using hi)).2.2.2
set_option maxRecDepth 100000 in
theorem open_treeC {r : Reach} {b0 : Nat} {v : Value} {d : DataW H} {p : List MemPlace} (hv : Value.okWide Tryd.prog w r b0 29 v) (h : DataW.Trod enc Tryd.prog w base spare held 29 v d p) :
    ∃ (t : Tr) (A : Option Addr) (cap : Nat), v = tv t A cap ∧ KVc w (fun _ => True) t A cap ∧ Wid t ∧ Fit t := by
  obtain ⟨cs, rfl, hsz⟩ := okWide_struct Tryd.underlying29 hv
  obtain ⟨fuel, hf⟩ := h
  obtain ⟨t, A, cap, he, hk, hw, hfi⟩ := tree_of_trodC fuel hf
  refine ⟨t, A, cap, ?_, hk, hw, hfi⟩
  unfold tv
  obtain ⟨l⟩ := cs
  simp [Value.cells] at he
  rw [he]
end
end Go.Proofs.YthaoalmhhgllmaaDoor
namespace Go.Proofs.YthaoalmhhgllmaaDoor
open Go.RowKit
def OfC (l : List Kno) (b : Nat) (t : Tr) : Prop := ∀ (w : World) (P : Nat → Prop) (A : Option Addr) (cap : Nat), KVc w P t A cap → MapW w b l →
  Calls Tryd.prog 21 #[.map (some b), .agg #[.int .i64 t.kind, .int .i64 t.num, .int .i64 t.c1, .int .i64 t.r1, .int .i64 t.c2, .int .i64 t.r2, .string ⟨t.word.toArray⟩, .slice A t.kids.length cap]] w fun e w' => e = .returned (.int .i64 (wyT l t)) ∧ Below w.heap.size w w'
set_option maxHeartbeats 4000000 in
set_option maxRecDepth 10000 in
theorem mall_any {l : List Kno} {b : Nat} (t : Tr) (hlen : t.kids.length ≤ 1000000) (ih : ∀ u ∈ t.kids, OfC l b u) (i0 : Nat) (w : World) (P : Nat → Prop) (g o o' n cap ct : Nat) (hk : KVc w P t (some ⟨g, o, none⟩) ct) (hm : MapW w b l) (ho : o' = o + i0 * 8) (hn : n = (t.kids.drop i0).length) :
    Calls Tryd.prog 54 #[.map (some b), .slice (some ⟨g, o', none⟩) n cap] w fun e w' => e = .returned (.int .i64 (joinL (wyL l (t.kids.drop i0)))) ∧ Below w.heap.size w w' := by
  have HK := Lib.hid hk
  have HM := Lib.hid hm
  have HI := Lib.hid ih
  have HO := Lib.hid ho
  have hL : (t.kids.drop i0).length ≤ 1000000 := by rw [List.length_drop]; omega
  obtain ⟨K, hKd⟩ : ∃ K, t.kids.drop i0 = K := ⟨_, rfl⟩
  have HKd : Hid (∀ (k : Nat) (u : Tr), K[k]? = some u → t.kids[i0 + k]? = some u) := Lib.hid fun k u h => by rw [← hKd, List.getElem?_drop] at h; exact h
  rw [hKd] at hn hL ⊢
  subst hn
  clear hk hm ih ho hlen hKd
  go_enter Tryd.func54, Tryd.ntmps54
  go_wp2_with fail
  go_loopw [5, 10] (fun v m wr => ∃ k : Nat, k ≤ K.length ∧ m = .int .i64 (k : Int) ∧ v = .int .i64 (joinL (wyL l (K.take k))) ∧ Below w.heap.size w wr) (fun _ m _ => K.length - (intOf m).toNat)
  case atStart => exact ⟨0, Nat.zero_le _, rfl, by rw [List.take_zero, wyL]; rfl, Below.refl _ _⟩
  case round =>
    obtain ⟨k, hk2, rfl, rfl, hb⟩ := hrel
    by_cases hlt : k < K.length
    · obtain ⟨u, hu⟩ : ∃ u, K[k]? = some u := ⟨_, List.getElem?_eq_getElem hlt⟩
      have hu2 := HKd.out k u hu
      obtain ⟨hg, A', cap', ⟨q0, q1, q2, q3, q4, q5, q6, q7⟩, hkv⟩ := HK.out.kidAt hb hu2
      have eo : o + (i0 + k) * 8 = o' + k * 8 := by rw [HO.out]; omega
      rw [eo] at q0 q1 q2 q3 q4 q5 q6 q7
      have HT := Lib.hid (joinL_take (l := l) hu)
      have hoq := ok_joinL (wyL l (K.take k))
      have HW : Hid (∀ w', Below wr.heap.size wr w' → Calls Tryd.prog 21 #[.map (some b), .agg #[.int .i64 u.kind, .int .i64 u.num, .int .i64 u.c1, .int .i64 u.r1, .int .i64 u.c2, .int .i64 u.r2, .string ⟨u.word.toArray⟩, .slice A' u.kids.length cap']] w' fun e w2 => e = .returned (.int .i64 (wyT l u)) ∧ Below w'.heap.size w' w2) :=
        Lib.hid fun w' h => HI.out u (List.mem_of_getElem? hu2) w' _ A' cap' (hkv.below h) ((HM.out.below hb).below h)
      have hov := ok_wy l u
      generalize joinL (wyL l (K.take k)) = Q at *
      generalize wyT l u = Z at *
      have HJ := Lib.hid (fun A cap w h => mjoin2 Q Z hoq A cap w h)
      have hcz := clean_ok hov
      rw [hcz] at HJ
      have zs := hb.size
      clear hkv hu hu2 hoq hov hcz hg eo
      go_wp2_with fail
      refine Calls.mono (HW.out _ ((Below.refl _ _).alloc (Nat.le_refl _) _)) ?_; rintro e w2 ⟨rfl, b2⟩
      have hb2 : Below w.heap.size w w2 := hb.trans ((((Below.refl _ _).alloc (Nat.le_refl _) _).trans (b2.mono (by simp))).mono hb.size)
      clear b2 q0 q1 q2 q3 q4 q5 q6 q7
      go_wp2_with fail
      refine Calls.mono (HJ.out _ _ _ (list2 (by simp [go_sem]) (by simp [go_sem]))) ?_; rintro e w3 ⟨rfl, b3⟩
      have hb3 : Below w.heap.size w w3 := (hb2.alloc hb2.size _).trans (b3.mono (by have := hb2.size; simp; omega))
      clear b3
      go_wp2_with fail
      go_roundw
      case rel => exact ⟨k + 1, by omega, by go_num, by rw [HT.out], hb3⟩
      case measure => simp [intOf]; omega
    · have hkk : k = K.length := by omega
      subst hkk
      rw [List.take_length]
      go_wp2_with fail
      go_ret
      exact ⟨rfl, hb⟩
end Go.Proofs.YthaoalmhhgllmaaDoor
