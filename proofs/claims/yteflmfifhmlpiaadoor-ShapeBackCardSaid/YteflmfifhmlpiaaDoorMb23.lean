/- Texts joined: RfG, ShLa, SyS, WrPa, SyQ, WrPe. -/
import Derived.Test.YteflmfifhmlpiaaDoorMa17
import Derived.Test.YteflmfifhmlpiaaDoorMa22
import Derived.Laws.Rows
import Derived.Test.YteflmfifhmlpiaaDoorMa13
import Derived.Test.YteflmfifhmlpiaaDoorMa15
import Derived.Test.YteflmfifhmlpiaaDoorMa02
import Derived.Test.YteflmfifhmlpiaaDoorMa08
set_option linter.all false
set_option linter.unusedVariables false
set_option linter.unusedSimpArgs false
namespace Go.Proofs.YteflmfifhmlpiaaDoor
open Go.RowKit Go.Shelf

attribute [local go_sem] Oper.semAt_some

theorem marked_zero : Tryd.zeroCells49 = Array.replicate 1024 (.bool false) := by kernel_rfl
theorem marked_under : Tryd.prog.underlying 49 = some (.array 1024 4) := by kernel_rfl
theorem marked_info : (Tryd.prog.info? 49).map (·.size) = some 1024 := by kernel_rfl
def MK (V : World) (B : Nat) (f : Nat → Bool) : Prop := ∃ c : Array Value, V.heap[B]? = some (.cells c 49 (0, 0)) ∧ c.size = 1024 ∧ ∀ j, j < 1024 → c[j]? = some (.bool (f j))
theorem MK.world {V V' : World} {B : Nat} {f : Nat → Bool} (h : MK V B f) (hb : V'.heap[B]? = V.heap[B]?) : MK V' B f := by
  obtain ⟨c, h1, h2, h3⟩ := h
  exact ⟨c, hb.trans h1, h2, h3⟩
theorem MK.lt {V : World} {B : Nat} {f : Nat → Bool} (h : MK V B f) : B < V.heap.size := by
  obtain ⟨c, h1, _⟩ := h
  exact (Array.getElem?_eq_some_iff.1 h1).1
theorem MK.cell {V : World} {B : Nat} {f : Nat → Bool} (h : MK V B f) {j : Nat} (hj : j < 1024) : V.cell? ⟨B, j, none⟩ = some (.bool (f j)) ∧ V.frozen? ⟨B, j, none⟩ = false := by
  obtain ⟨c, h1, h2, h3⟩ := h
  refine ⟨?_, by simp [World.frozen?, h1]⟩
  rw [Lib.cell_of_heap h1 j]
  exact h3 j hj
theorem MK.set {V : World} {B : Nat} {f g : Nat → Bool} (h : MK V B f) {j : Nat} (hg : ∀ i, i < 1024 → g i = (f i || decide (i = j))) : MK (V.setCell ⟨B, j, none⟩ (.bool true)) B g := by
  obtain ⟨c, h1, h2, h3⟩ := h
  refine ⟨c.setIfInBounds j (.bool true), ?_, by rw [Array.size_setIfInBounds, h2], fun i hi => ?_⟩
  · have hlt := (Array.getElem?_eq_some_iff.1 h1).1
    have he := (Array.getElem?_eq_some_iff.1 h1).2
    show (V.heap.modify B _)[B]? = _
    rw [Array.getElem?_eq_getElem (by rw [Array.size_modify]; exact hlt), Array.getElem_modify_self, he]
    rfl
  · rw [Array.getElem?_setIfInBounds, hg i hi]
    by_cases e : j = i
    · subst e
      rw [if_pos rfl, if_pos (by rw [h2]; exact hi)]
      simp
    · rw [if_neg e, h3 i hi, decide_eq_false (fun h => e h.symm), Bool.or_false]
theorem run_marked (c : Array Value) (i : Nat) (b : Bool) (hs : c.size = 1024) (hi : i < 1024) (h : c[i]? = some (.bool b)) (w : World) : (Instr.index 49 (.agg c) (.int .i64 (i : Int))).run Tryd.prog w = .ok (.bool b) w := by
  have hh : c[i]'(by omega) = .bool b := by
    have := Array.getElem?_eq_some_iff.1 h
    exact this.2
  simp [Instr.index, go_sem, marked_under, hs, hi, hh, h]
theorem MK.congr {V : World} {B : Nat} {f g : Nat → Bool} (h : MK V B f) (hg : ∀ j, j < 1024 → f j = g j) : MK V B g := by
  obtain ⟨c, h1, h2, h3⟩ := h
  exact ⟨c, h1, h2, fun j hj => by rw [h3 j hj, hg j hj]⟩
theorem wpIn_load_marked {F : Fence} {n : Nat} {P : Program} {ops : Array Oper} {rest : List Oper} {o : Oper} {a : Act} {w : World} {Q : Exit → Act → World → Prop} (hgd : o.guard = none) (ty : TypeId) (x : Operand) (ho : o.op = .load ty x)
    (g : Nat) (hx : a.eval x = .pointer (some ⟨g, 0, none⟩)) (t : TypeId) (cs : Array Value) (fr : Nat × Nat) (d : TypeDesc) (hg : w.heap[g]? = some (.cells cs t fr))
    (hu : P.underlying ty = some d) (hd : (match d with | .struct _ | .array _ _ => true | _ => false) = true) (hi : (P.info? ty).map (·.size) = some cs.size)
    (h : wpListIn F n P ops Q rest (a.put o.dst (.agg cs)) w) : wpListIn F n P ops Q (o :: rest) a w := by
  refine wpListIn_plain hgd fun K hK => ?_
  unfold Oper.wpIn
  refine ⟨by simp [Oper.about, ho], ?_⟩
  rw [Oper.semAt_plain F _ _ (by rw [ho]; intro c hc; cases hc)]
  unfold execOp
  simp only [ho, hx, Instr.loadAt, Instr.sureAddr, Sem.run_bind, Sem.run_pure, Result.andThen_ok, run_loadVar_row w g t ty cs fr d hg hu hd hi]
  exact hK _ _ h
def jsOf (u : Tr) : List Nat := (List.range 1024).filter fun j => hasB u.c1 u.r1 u.c2 u.r2 (atC (j : Int)) (atR (j : Int))
set_option maxRecDepth 100000 in
theorem cells_js (u : Tr) : cellsTo u.c1 u.r1 u.c2 u.r2 1024 = (jsOf u).map fun (j : Nat) => (atC (j : Int), atR (j : Int)) := by unfold cellsTo jsOf; rfl
theorem js_mem {u : Tr} {j : Nat} : j ∈ jsOf u ↔ j < 1024 ∧ hasB u.c1 u.r1 u.c2 u.r2 (atC (j : Int)) (atR (j : Int)) = true := by
  unfold jsOf
  generalize 1024 = N
  rw [List.mem_filter, List.mem_range]
theorem js_lt {u : Tr} {k j : Nat} (h : (jsOf u)[k]? = some j) : j < 1024 := (js_mem.1 (List.mem_of_getElem? h)).1
theorem idx_at {j : Nat} (h : j < 1024) : idxN (atC (j : Int)) (atR (j : Int)) = (j : Int) := by
  unfold idxN
  rw [atC_of j h, atR_of j h, if_pos ((rightB_iff _ _).2 ⟨by omega, by omega, by omega, by omega⟩)]
  omega
def mkF (t : Tr) (i : Nat) (j : Nat) : Bool := anyH (atC (j : Int)) (atR (j : Int)) (rgs t) i
theorem mkF_step {t u : Tr} {i : Nat} (h : (rgs t)[i]? = some u) {j : Nat} (hj : j < 1024) : mkF t (i + 1) j = (mkF t i j || decide (j ∈ jsOf u)) := by
  have e : decide (j ∈ jsOf u) = hasB u.c1 u.r1 u.c2 u.r2 (atC (j : Int)) (atR (j : Int)) := by
    rw [Bool.eq_iff_iff, decide_eq_true_iff, js_mem]
    exact ⟨fun h => h.2, fun h => ⟨hj, h⟩⟩
  unfold mkF
  rw [anyH_step h, e]
def rdM (t : Tr) (i : Nat) : List (Int × Int) := ((List.range i).filter fun (j : Nat) => mkF t (rgs t).length j).map fun (j : Nat) => (atC (j : Int), atR (j : Int))
theorem rdM_yes {t : Tr} {i : Nat} (h : mkF t (rgs t).length i = true) : rdM t (i + 1) = rdM t i ++ [(atC i, atR i)] := by
  unfold rdM; rw [List.range_succ, List.filter_append, List.map_append]; simp [h]
theorem rdM_no {t : Tr} {i : Nat} (h : mkF t (rgs t).length i = false) : rdM t (i + 1) = rdM t i := by
  unfold rdM; rw [List.range_succ, List.filter_append, List.map_append]; simp [h]
theorem rdM_le (t : Tr) (i : Nat) : (rdM t i).length ≤ i := by
  unfold rdM; rw [List.length_map]; exact Nat.le_trans (List.length_filter_le _ _) (by simp)
set_option maxHeartbeats 8000000 in
set_option maxRecDepth 100000 in
theorem pReads_any {t : Tr} (hW : Wid t) (hc : cntT t ≤ 1000000) (w : World) (A : Option Addr) (ca : Nat) (hA : KV w (fun _ => True) t A) {B : Nat} (hSB : B ≤ w.heap.size) (hSt : Strs B B w) :
    Calls Tryd.prog 11 #[tv t A ca] w fun e w' => ∃ v, e = .returned v ∧ w'.ownsRow w.heap.size 24 2 v (rdM t 1024).length (cells2 (rdM t 1024)) ∧ Below w.heap.size w w' := by
  have hA0 : KV w (fun b => b < w.heap.size) t A := hA.low.imp fun _ h => h.2
  have HPa := Lib.hid (fun w => pranges_any t w A ca)
  obtain ⟨i0, hi0, hz0, hz1, hz2⟩ := info_parts place_info
  have HI := Lib.hid hi0
  have HZ0 := Lib.hid hz0
  have HZ1 := Lib.hid hz1
  have HZ2 := Lib.hid hz2
  clear hi0 hz0 hz1 hz2
  unfold tv at *
  refine (callsIn_wide (n := 9)).1 (callsIn_of_wp_marks Tryd.func11 rfl trivial ?_ rfl)
  simp only [Tryd.ntmps11, List.size_toArray, List.length_cons, List.length_nil, Nat.reduceAdd, Nat.reduceSub, Array.replicate_succ, Array.replicate_zero, List.push_toArray, List.append_toArray, List.nil_append, List.cons_append]
  gi_wp2
  refine ⟨trivial, ?_⟩
  refine (callsIn_wide.2 (HPa.out _)).mono ?_
  rintro e w1 ⟨rfl, rfl⟩
  clear HPa
  gi_wp2
  obtain ⟨W1, hW1⟩ : ∃ W1, (((w.alloc (.cells #[.int .i64 t.kind, .int .i64 t.num, .int .i64 t.c1, .int .i64 t.r1, .int .i64 t.c2, .int .i64 t.r2, .string ⟨t.word.toArray⟩, .slice A t.kids.length ca] 29)).alloc (.cells Tryd.zeroCells49 49)).alloc (.cells (V8L t A ca) 29)) = W1 := ⟨_, rfl⟩
  have hbW : Below w.heap.size w W1 := by rw [← hW1]; exact (((Below.refl _ _).alloc (Nat.le_refl _) _).alloc (by simp) _).alloc (by simp; omega) _
  have hz1 : W1.heap.size = w.heap.size + 3 := by rw [← hW1]; simp
  have hCT : CT W1 (w.heap.size + 1 + 1) t A ca := by
    rw [← hW1]
    unfold V8L
    refine ⟨?_, ?_, ?_, ?_, ?_, ?_, ?_, ?_⟩ <;> simp [go_sem]
  have hn0 : MK W1 (w.heap.size + 1) (mkF t 0) := by
    refine ⟨Tryd.zeroCells49, ?_, by rw [marked_zero, Array.size_replicate], fun j hj => by rw [marked_zero, Array.getElem?_replicate, if_pos hj]; rfl⟩
    rw [← hW1, Below.heap_alloc _ _ _ (by simp)]
    have := World.alloc_heap_new (w.alloc (.cells #[.int .i64 t.kind, .int .i64 t.num, .int .i64 t.c1, .int .i64 t.r1, .int .i64 t.c2, .int .i64 t.r2, .string ⟨t.word.toArray⟩, .slice A t.kids.length ca] 29)) (.cells Tryd.zeroCells49 49)
    rwa [World.size_alloc] at this
  rw [hW1]
  clear hW1
  have hA1 : KV W1 (fun b => b < w.heap.size) t A := hA0.kept (Kept.of_below hbW)
  refine wp_range (gf := 48) (lb := #[.pointer (some ⟨w.heap.size + 1 + 1, 0, none⟩)]) rfl (enters_of Tryd.func48 (by kernel_rfl) rfl)
    (ranges_yields hW hc hCT hA1 (fun k hk => by omega) (Nat.le_trans hSB hbW.size) (hSt.later hSB hbW)) (Below.refl _ _) (fun x args h => by rw [h]; rfl)
    (fun k => k = w.heap.size + 1) (by rintro k rfl; exact ⟨by omega, by rintro (h | h); omega; have h2 : w.heap.size + 1 < w.heap.size := h; omega⟩) (by rintro k (rfl | h); omega; have h2 : k < w.heap.size := h; omega)
    (fun i V => MK V (w.heap.size + 1) (mkF t i)) (fun _ _ => False)
    (fun i A B hab h => h.world (hab.block _ (by omega)))
    (fun _ _ _ _ h => h) hn0
    (fun u a' V => ∃ Bx, W1.heap.size ≤ Bx ∧ C4 V Bx u ∧ a' = { tmps := #[.agg #[.int .i64 t.kind, .int .i64 t.num, .int .i64 t.c1, .int .i64 t.r1, .int .i64 t.c2, .int .i64 t.r2, .string ⟨t.word.toArray⟩, .slice A t.kids.length ca], .pointer (some ⟨w.heap.size, 0, none⟩), .slice none 0 0, .pointer (some ⟨w.heap.size + 1, 0, none⟩), .pointer (some ⟨Bx, 0, none⟩), undef, undef, undef, undef, undef, undef, undef,
      .agg #[.int .i64 t.kind, .int .i64 t.num, .int .i64 t.c1, .int .i64 t.r1, .int .i64 t.c2, .int .i64 t.r2, .string ⟨t.word.toArray⟩, .slice A t.kids.length ca], .func (.func 48) #[] #[.pointer (some ⟨w.heap.size + 1 + 1, 0, none⟩)], .agg #[.int .i64 u.c1, .int .i64 u.r1, .int .i64 u.c2, .int .i64 u.r2], undef, undef, undef, undef, undef, undef, undef, undef, undef, undef, undef, undef, undef, undef, undef, undef, undef, undef, undef, undef, undef, undef, undef, undef, undef, undef, undef, undef], defers := [] })
    (fun x a' V l' r o hl ⟨Bx, h1, h2, h3⟩ => ⟨Bx, h1, h2.turn hl o, h3⟩)
    ?assign ?body ?done ?stop
  case assign =>
    rintro l' i u args V K hx he hz hK
    subst he
    gi_wp2
    exact hK _ _ ((Below.refl _ _).alloc (Nat.le_refl _) _) ⟨V.heap.size, hz, by refine ⟨?_, ?_, ?_, ?_⟩ <;> simp [go_sem], rfl⟩
  case body =>
    rintro l' i u a' V hx hsV hmk ⟨Bx, hBx, ⟨v0, v1, v2, v3⟩, rfl⟩
    have HH := Lib.hid (fun w => pcells_any u.c1 u.r1 u.c2 u.r2 w)
    have HST := Lib.hid (fun j hj => mkF_step (j := j) hx hj)
    have hzV := hsV.size
    gi_wp2
    refine ⟨trivial, ?_⟩
    refine (CallsIn.inRound l' (callsIn_wide.2 (HH.out _))).mono ?_
    rintro e V2 ⟨rv, rfl, hrow, b2⟩
    obtain ⟨RA, rc, rfl, hat⟩ := own_shape hrow
    have HM2 := Lib.hid (hmk.world (b2.block _ hmk.lt))
    have HS2 := Lib.hid (Sav.of_below (C := fun k => k = w.heap.size + 1) b2)
    have zV2 := b2.size
    have HAT := Lib.hid hat
    have HLow : Hid (∀ g, RA = some ⟨g, 0, none⟩ → g ≠ w.heap.size + 1) := Lib.hid fun g hg => by
      have := (hrow.lt g (by rw [hg]; rfl)).1
      omega
    have hlen := cellsTo_le u.c1 u.r1 u.c2 u.r2 1024
    clear v0 v1 v2 v3 hmk hrow b2 hat HH
    have hL : (cellsTo u.c1 u.r1 u.c2 u.r2 1024).length = (jsOf u).length := by rw [cells_js, List.length_map]
    gi_wp2
    rw [hL] at hlen
    try rw [hL]
    gi_loopw [18] (fun n wr => ∃ k : Nat, k ≤ (jsOf u).length ∧ n = .int .i64 (k : Int) ∧ MK wr (w.heap.size + 1) (fun j => mkF t i j || decide (j ∈ (jsOf u).take k)) ∧ Sav (fun k => k = w.heap.size + 1) V2 wr) (fun n _ => (jsOf u).length - (intOf n).toNat)
    case atStart => exact ⟨0, Nat.zero_le _, rfl, HM2.out.congr fun j _ => by simp, Sav.refl _ _⟩
    case round =>
      obtain ⟨k, hk, rfl, hmk, hsw⟩ := hrel
      have zw := hsw.size
      by_cases hlt : k < (jsOf u).length
      · obtain ⟨g, rfl, hgl, hat⟩ := HAT.out k (by omega)
        have hj : (jsOf u)[k]? = some ((jsOf u)[k]'hlt) := List.getElem?_eq_getElem hlt
        have hj2 := js_lt hj
        obtain ⟨a0, a1⟩ := hat k (atC ((jsOf u)[k]'hlt : Nat)) (atR ((jsOf u)[k]'hlt : Nat)) (by rw [cells_js, List.getElem?_map, hj]; rfl)
        have a2 := hsw.cell (HLow.out g rfl) a0
        have a3 := hsw.cell (HLow.out g rfl) a1
        have HX := Lib.hid (fun w => pindex_any (atC ((jsOf u)[k]'hlt : Nat)) (atR ((jsOf u)[k]'hlt : Nat)) w)
        rw [idx_at hj2] at HX
        have HTK : Hid ((jsOf u).take (k + 1) = (jsOf u).take k ++ [(jsOf u)[k]'hlt]) := Lib.hid (by rw [List.take_add_one, hj]; rfl)
        generalize (jsOf u)[k]'hlt = q at *
        generalize atC (q : Int) = qx at *
        generalize atR (q : Int) = qy at *
        clear a0 a1 hat hj
        gi_wp2
        refine ⟨trivial, ?_⟩
        refine (CallsIn.inRound l' (callsIn_wide.2 (HX.out _))).mono ?_
        rintro e w3 ⟨rfl, b3⟩
        have hz3 : w.heap.size + 1 < wr.heap.size := hmk.lt
        have b3' : Below wr.heap.size wr w3 := ((Below.refl _ _).alloc (Nat.le_refl _) _).trans (b3.mono (by simp))
        have hm3 := hmk.world (b3'.block _ hz3)
        have hs3 : Sav (fun k => k = w.heap.size + 1) V2 w3 := hsw.trans (Sav.of_below b3')
        obtain ⟨c3, f3⟩ := hm3.cell hj2
        have HM3 := Lib.hid hm3
        have HS3 := Lib.hid hs3
        clear b3 b3' hm3 hs3 hmk hsw a2 a3 HX
        gi_wp2
        go_roundw
        case rel => exact ⟨k + 1, by omega, by go_num, HM3.out.set fun j _ => by rw [HTK.out]; rw [Bool.eq_iff_iff]; simp [or_assoc], Sav.setCell (C := fun k => k = w.heap.size + 1) (g := w.heap.size + 1) HS3.out (.inl rfl) q (.bool true)⟩
        case measure => simp [intOf]; omega
      · have hke : k = (jsOf u).length := by omega
        subst hke
        gi_wp2
        refine ⟨HS2.out.trans hsw, hmk.congr fun j hj => ?_⟩
        rw [HST.out j hj, List.take_length]
  case done =>
    rintro D V hD hsV hmk hK
    obtain ⟨c, hch, hcs, hcj⟩ := hmk
    have HCH := Lib.hid hch
    have HCS := Lib.hid hcs
    have HCJ := Lib.hid hcj
    have HKD := Lib.hid hK
    have hzV := hsV.size
    have HSV := Lib.hid hsV
    have hDV : D < V.heap.size := (Array.getElem?_eq_some_iff.1 hK).1
    clear hch hcs hcj hK hsV
    gi_wp2_with (refine wpIn_load_marked rfl 49 _ rfl (w.heap.size + 1) rfl 49 c (0, 0) _ HCH.out marked_under rfl (by rw [HCS.out]; exact marked_info) ?_)
    gi_loopw [7, 27] (fun v n wr => ∃ i : Nat, i ≤ 1024 ∧ n = .int .i64 (i : Int) ∧ wr.ownsRow V.heap.size 24 2 v (rdM t i).length (cells2 (rdM t i)) ∧ Below V.heap.size V wr) (fun _ n _ => leftG n)
    case atStart => exact ⟨0, by omega, rfl, World.ownsRow_nil _ _ _ _, Below.refl _ _⟩
    case round =>
      obtain ⟨i, hi, rfl, hown, hb⟩ := hrel
      have HO := Lib.hid hown
      have hlen2 := rdM_le t i
      have zr := hb.size
      clear hown
      by_cases hlt : i < 1024
      · have hrun := run_marked c i (mkF t (rgs t).length i) HCS.out hlt (HCJ.out i hlt)
        have HA := Lib.hid (fun w => pat_any (i : Int) w)
        cases hm : mkF t (rgs t).length i with
        | true =>
          have HS := Lib.hid (rdM_yes hm)
          rw [hm] at hrun
          generalize atC (i : Int) = qx at *
          generalize atR (i : Int) = qy at *
          clear hm
          gi_wp2
          refine ⟨trivial, ?_⟩
          refine (callsIn_wide.2 (HA.out _)).mono ?_
          rintro e w2 ⟨rfl, b2⟩
          have HO2 := Lib.hid (own_below HO.out b2)
          have hb2 := hb.trans (b2.mono (by omega))
          have z2 := hb2.size
          clear b2 HA
          gi_wp2_with (gi_at_builtin
                       refine wpListIn_append_own _ rfl _ _ 37 rfl V.heap.size 24 i0 (.agg #[.int .i64 0, .int .i64 0]) 2 16 Tryd.underlying37 HI.out HZ0.out HZ1.out HZ2.out rfl (by decide) _ _ _ rfl ((HO2.out.alloc _).alloc _)
                         ⟨w2.heap.size + 1, 0, none⟩ 1 1 [.int .i64 qx, .int .i64 qy] rfl rfl ?c1 ?c2 ?c3 ?c4 ?c5 ?_)
          case c1 =>
            intro j u hj
            match j, hj with
            | 0, hj => simp at hj; subst hj; simp [Addr.add, go_sem]
            | 1, hj => simp at hj; subst hj; simp [Addr.add, go_sem]
          case c2 => intro u hu; simp at hu; rcases hu with rfl | rfl <;> rfl
          case c3 => unfold maxLen; omega
          case c4 => omega
          case c5 => simp; omega
          intro v' w4 hown4 hg4 _
          rw [← cells2_snoc] at hown4
          have e5 : (rdM t i).length + 1 = (rdM t (i + 1)).length := by rw [HS.out]; simp
          rw [e5, ← HS.out] at hown4
          have HO4 := Lib.hid hown4
          clear hown4 e5
          have hb4 : Below V.heap.size V w4 := ((hb2.alloc z2 _).alloc (by simp; omega) _).grown hg4 (by simp; omega) (fun g hgg => (HO2.out.lt g hgg).1)
          clear hg4
          gi_wp2
          go_roundw
          case rel => exact ⟨i + 1, by omega, by go_num, HO4.out, hb4⟩
          case measure => simp [leftG, intOf]; omega
        | false =>
          have HS := Lib.hid (rdM_no hm)
          rw [hm] at hrun
          clear hm HA
          have HO3 := HO.out
          rw [← HS.out] at HO3
          have HO4 := Lib.hid HO3
          clear HO3
          gi_wp2
          go_roundw
          case rel => exact ⟨i + 1, by omega, by go_num, HO4.out, hb⟩
          case measure => simp [leftG, intOf]; omega
      · have hi2 : i = 1024 := by omega
        subst hi2
        have hKr : wr.heap[D]? = some (.deferred (some [])) := (hb.block D hDV).trans HKD.out
        gi_wp2
        refine ⟨by simp, .inl ⟨_, _, rfl, run_takeDeferred hKr, ?_⟩⟩
        refine ⟨_, results_tmp rfl _ _ _, _, rfl, ?_, hbW.trans (((HSV.out.trans (Sav.of_below hb)).putObj (.inr (by omega)) _).below (fun k hk h => by have h2 : k = w.heap.size + 1 := h; omega) (by omega))⟩
        exact (ownsRow_putObj HO.out _ hKr rfl).mono (by omega)
  case stop =>
    rintro D c V hD hsV h hK
    exact h.elim
end Go.Proofs.YteflmfifhmlpiaaDoor
namespace Go.Proofs.YteflmfifhmlpiaaDoor
open Go.RowKit

def shB (b : Bool) (x y : Int) (t : Tr) : Tr := if b = true then mvT x y t else .mk 0 0 0 0 0 0 [] []
def erB (b : Bool) : Int := if b = true then 0 else 1
set_option maxHeartbeats 4000000 in
set_option maxRecDepth 100000 in
theorem pShift_any (x y : Int) (hx : B63 x) (hy : B63 y) (t : Tr) (hW : Wid t) (hc : cntT t ≤ 1000000)  (w : World) (A : Option Addr) (ca : Nat) (hA : KV w (fun _ => True) t A) {B : Nat} (hSB : B ≤ w.heap.size) (hSt : Strs B B w) :
    Calls Tryd.prog 7 #[tv t A ca, .agg #[.int .i64 x, .int .i64 y]] w fun e w' => (∃ A' cp, e = .returned (.tuple #[tv (shB (rightP t) x y t) A' cp, .int .i64 (erB (rightP t))]) ∧ KV w' (fun b => w.heap.size ≤ b) (shB (rightP t) x y t) A') ∧ Below w.heap.size w w' := by
  have hlen := hW.len
  unfold maxLen at hlen
  have H1 := Lib.hid (fun w1 (hb : Below w.heap.size w w1) => sright_any t hW w1 (fun _ => True) A ca (hA.kept (Kept.of_below hb)) B (Nat.le_trans hSB hb.size) (hSt.later hSB hb))
  have H2 := Lib.hid (fun w1 (hb : Below w.heap.size w w1) => pmoved_any x y hx hy hW hc w1 (fun _ => True) A ca (hA.kept (Kept.of_below hb)))
  have HE : Hid (rightP t = false → shB (rightP t) x y t = .mk 0 0 0 0 0 0 [] [] ∧ erB (rightP t) = 1) := Lib.hid fun h => by rw [h]; exact ⟨rfl, rfl⟩
  have HT : Hid (rightP t = true → shB (rightP t) x y t = mvT x y t ∧ erB (rightP t) = 0) := Lib.hid fun h => by rw [h]; exact ⟨rfl, rfl⟩
  unfold tv at H1
  generalize shB (rightP t) x y t = S at *
  generalize erB (rightP t) = E at *
  clear hA hW hc hx hy hSB hSt
  show Calls Tryd.prog 7 #[.agg #[.int .i64 t.kind, .int .i64 t.num, .int .i64 t.c1, .int .i64 t.r1, .int .i64 t.c2, .int .i64 t.r2, .string ⟨t.word.toArray⟩, .slice A t.kids.length ca], .agg #[.int .i64 x, .int .i64 y]] w _
  cases hR : rightP t
  all_goals
    rw [hR] at H1
    go_enter Tryd.func7, Tryd.ntmps7
    go_wp2_with fail
    refine (H1.out _ (((((Below.refl _ _).alloc (Nat.le_refl _) _).alloc (by simp) _).alloc (by simp; omega) _))).mono ?_; rintro e w1 ⟨rfl, b1⟩
    have k0 : w1.cell? ⟨w.heap.size, 0, none⟩ = some (.int .i64 t.kind) := keep_cell b1 (by simp [go_sem])
    have k1 : w1.cell? ⟨w.heap.size, 1, none⟩ = some (.int .i64 t.num) := keep_cell b1 (by simp [go_sem])
    have k2 : w1.cell? ⟨w.heap.size, 2, none⟩ = some (.int .i64 t.c1) := keep_cell b1 (by simp [go_sem])
    have k3 : w1.cell? ⟨w.heap.size, 3, none⟩ = some (.int .i64 t.r1) := keep_cell b1 (by simp [go_sem])
    have k4 : w1.cell? ⟨w.heap.size, 4, none⟩ = some (.int .i64 t.c2) := keep_cell b1 (by simp [go_sem])
    have k5 : w1.cell? ⟨w.heap.size, 5, none⟩ = some (.int .i64 t.r2) := keep_cell b1 (by simp [go_sem])
    have k6 : w1.cell? ⟨w.heap.size, 6, none⟩ = some (.string ⟨t.word.toArray⟩) := keep_cell b1 (by simp [go_sem])
    have k7 : w1.cell? ⟨w.heap.size, 7, none⟩ = some (.slice A t.kids.length ca) := keep_cell b1 (by simp [go_sem])
    have p0 : w1.cell? ⟨w.heap.size + 1, 0, none⟩ = some (.int .i64 x) := keep_cell b1 (by simp [go_sem])
    have p1 : w1.cell? ⟨w.heap.size + 1, 1, none⟩ = some (.int .i64 y) := keep_cell b1 (by simp [go_sem])
    have r0 : w1.cell? ⟨w.heap.size + 1 + 1, 0, none⟩ = some (.int .i64 0) := keep_cell b1 (by simp [go_sem])
    have r1 : w1.cell? ⟨w.heap.size + 1 + 1, 1, none⟩ = some (.int .i64 0) := keep_cell b1 (by simp [go_sem])
    have r2 : w1.cell? ⟨w.heap.size + 1 + 1, 2, none⟩ = some (.int .i64 0) := keep_cell b1 (by simp [go_sem])
    have r3 : w1.cell? ⟨w.heap.size + 1 + 1, 3, none⟩ = some (.int .i64 0) := keep_cell b1 (by simp [go_sem])
    have r4 : w1.cell? ⟨w.heap.size + 1 + 1, 4, none⟩ = some (.int .i64 0) := keep_cell b1 (by simp [go_sem])
    have r5 : w1.cell? ⟨w.heap.size + 1 + 1, 5, none⟩ = some (.int .i64 0) := keep_cell b1 (by simp [go_sem])
    have r6 : w1.cell? ⟨w.heap.size + 1 + 1, 6, none⟩ = some (.string ⟨#[]⟩) := keep_cell b1 (by simp [go_sem])
    have r7 : w1.cell? ⟨w.heap.size + 1 + 1, 7, none⟩ = some (.slice none 0 0) := keep_cell b1 (by simp [go_sem])
    have f0 : w1.frozen? ⟨w.heap.size + 1 + 1, 0, none⟩ = false := keep_frozen b1 (by simp) (by simp [go_sem])
    have f1 : w1.frozen? ⟨w.heap.size + 1 + 1, 1, none⟩ = false := keep_frozen b1 (by simp) (by simp [go_sem])
    have f2 : w1.frozen? ⟨w.heap.size + 1 + 1, 2, none⟩ = false := keep_frozen b1 (by simp) (by simp [go_sem])
    have f3 : w1.frozen? ⟨w.heap.size + 1 + 1, 3, none⟩ = false := keep_frozen b1 (by simp) (by simp [go_sem])
    have f4 : w1.frozen? ⟨w.heap.size + 1 + 1, 4, none⟩ = false := keep_frozen b1 (by simp) (by simp [go_sem])
    have f5 : w1.frozen? ⟨w.heap.size + 1 + 1, 5, none⟩ = false := keep_frozen b1 (by simp) (by simp [go_sem])
    have f6 : w1.frozen? ⟨w.heap.size + 1 + 1, 6, none⟩ = false := keep_frozen b1 (by simp) (by simp [go_sem])
    have f7 : w1.frozen? ⟨w.heap.size + 1 + 1, 7, none⟩ = false := keep_frozen b1 (by simp) (by simp [go_sem])
    have h1 : Below w.heap.size w w1 := ((((Below.refl _ _).alloc (Nat.le_refl _) _).alloc (by simp) _).alloc (by simp; omega) _).trans (b1.mono (by simp; omega))
    have z1 : w.heap.size + 1 + 1 < w1.heap.size := by have := b1.size; simp at this; omega
    clear b1
    go_wp2_with fail
  · refine bodyPost_ret (v := .tuple #[.agg #[.int .i64 0, .int .i64 0, .int .i64 0, .int .i64 0, .int .i64 0, .int .i64 0, .string ⟨#[]⟩, .slice none 0 0], .int .i64 1]) (by simp [results, Tryd.results7, go_sem, r0, r1, r2, r3, r4, r5, r6, r7]) rfl ⟨?_, by
      repeat' (first | with_reducible exact h1 | with_reducible refine Below.setCell ?_ (by first | omega | (simp <;> omega)) _)⟩
    rw [(HE.out hR).1, (HE.out hR).2]
    exact ⟨none, 0, rfl, KV.mk (.inl rfl)⟩
  · have hs1 := h1.size
    refine (H2.out w1 h1).mono ?_; rintro e w2 ⟨⟨d0, d1, d2, d3, d4, d5, dw, dA, dl, dc⟩, rfl, v2, b2⟩
    have hv : ∃ A' cp, (.agg #[.int .i64 d0, .int .i64 d1, .int .i64 d2, .int .i64 d3, .int .i64 d4, .int .i64 d5, .string dw, .slice dA dl dc] : Value) = tv (mvT x y t) A' cp ∧ KV w2 (fun b => w1.heap.size ≤ b) (mvT x y t) A' := by
      obtain ⟨A', cp, he, hk⟩ := v2
      refine ⟨A', cp, ?_, hk⟩
      rw [← tv8_val, ← he]
      rfl
    obtain ⟨A', cp, he, hk⟩ := hv
    have HV := Lib.hid (And.intro he hk)
    have n2 := b2.size
    replace r0 := keep_cell b2 r0
    replace f0 := keep_frozen b2 z1 f0
    replace r1 := keep_cell b2 r1
    replace f1 := keep_frozen b2 z1 f1
    replace r2 := keep_cell b2 r2
    replace f2 := keep_frozen b2 z1 f2
    replace r3 := keep_cell b2 r3
    replace f3 := keep_frozen b2 z1 f3
    replace r4 := keep_cell b2 r4
    replace f4 := keep_frozen b2 z1 f4
    replace r5 := keep_cell b2 r5
    replace f5 := keep_frozen b2 z1 f5
    replace r6 := keep_cell b2 r6
    replace f6 := keep_frozen b2 z1 f6
    replace r7 := keep_cell b2 r7
    replace f7 := keep_frozen b2 z1 f7
    have h2 : Below w.heap.size w w2 := h1.trans (b2.mono h1.size)
    have z2 : w.heap.size + 1 + 1 < w2.heap.size := by omega
    clear b2 h1 v2 he hk k0 k1 k2 k3 k4 k5 k6 k7 p0 p1
    dsimp only [V8.val]
    go_wp2_with fail
    refine bodyPost_ret (v := .tuple #[.agg #[.int .i64 d0, .int .i64 d1, .int .i64 d2, .int .i64 d3, .int .i64 d4, .int .i64 d5, .string dw, .slice dA dl dc], .int .i64 0]) (by simp [results, Tryd.results7, go_sem, z2, r0, r1, r2, r3, r4, r5, r6, r7]) rfl ⟨?_, by
      repeat' (first | with_reducible exact h2 | with_reducible refine Below.setCell ?_ (by first | omega | (simp <;> omega)) _)⟩
    rw [(HT.out hR).1, (HT.out hR).2]
    refine ⟨A', cp, by rw [HV.out.1], KV.imp (P := fun b => w1.heap.size ≤ b) (fun b hb => by have hb2 : w1.heap.size ≤ b := hb; omega) (HV.out.2.kept ?_)⟩
    repeat' (first | with_reducible exact Kept.refl _ _ | with_reducible refine Kept.set ?_ (.inl (by show ¬ w1.heap.size ≤ _; omega)) _ _)
end Go.Proofs.YteflmfifhmlpiaaDoor
namespace Go.Proofs.YteflmfifhmlpiaaDoor

theorem allB_iff {ks : List Tr} {a b : Bool} : allB ks a b = true ↔ ∀ t ∈ ks, mayB t = true ∧ (a = true ∨ t.kind ≠ 6) ∧ (b = false ∨ t.kind = 6 ∨ t.kind = 2) := by
  refine ⟨all_mem, fun h => ?_⟩
  induction ks with
  | nil => rw [allB]
  | cons u r ih =>
    rw [allB]
    obtain ⟨h1, h2, h3⟩ := h u (by simp)
    simp only [Bool.and_eq_true, Bool.or_eq_true, Bool.not_eq_true', bne_iff_ne, beq_iff_eq]
    exact ⟨⟨h1, h2, by rcases h3 with h3 | h3 | h3; exact .inl (.inl h3); exact .inl (.inr h3); exact .inr h3⟩, ih fun t ht => h t (by simp [ht])⟩
theorem deepL_iff {ks : List Tr} {d : Nat} : deepL ks ≤ d ↔ ∀ u ∈ ks, deepT u ≤ d := by
  induction ks with
  | nil => simp [deepL]
  | cons u r ih =>
    rw [deepL]
    constructor
    · intro h v hv
      rcases List.mem_cons.1 hv with rfl | hv
      · omega
      · exact ih.1 (by omega) v hv
    · intro h
      have h1 := h u (by simp)
      have h2 := ih.2 fun v hv => h v (by simp [hv])
      omega
theorem any_span {ks : List Tr} : ks.any (fun t => t.kind == 6) = false ↔ ∀ t ∈ ks, t.kind ≠ 6 := by
  rw [Bool.eq_false_iff]
  simp [List.any_eq_true]
theorem any_unc {ks : List Tr} : ks.any (fun t => (t.kind != 6) && (t.kind != 2)) = false ↔ ∀ t ∈ ks, t.kind = 6 ∨ t.kind = 2 := by
  rw [Bool.eq_false_iff]
  simp [List.any_eq_true]
  constructor
  · intro h t ht
    by_cases h6 : t.kind = 6
    · exact .inl h6
    · exact .inr (h t ht h6)
  · intro h t ht h6
    exact (h t ht).resolve_left h6
theorem allB_span {ks : List Tr} : allB ks false false = true ↔ ks.any (fun t => t.kind == 6) = false ∧ ∀ u ∈ ks, mayB u = true := by
  rw [allB_iff, any_span]
  constructor
  · intro h
    refine ⟨fun t ht => ?_, fun t ht => (h t ht).1⟩
    rcases (h t ht).2.1 with h1 | h1
    · cases h1
    · exact h1
  · intro h t ht
    exact ⟨h.2 t ht, .inr (h.1 t ht), .inl rfl⟩
theorem allB_free {ks : List Tr} : allB ks true false = true ↔ ∀ u ∈ ks, mayB u = true := by
  rw [allB_iff]
  exact ⟨fun h t ht => (h t ht).1, fun h t ht => ⟨h t ht, .inl rfl, .inl rfl⟩⟩
theorem allB_unc {ks : List Tr} : allB ks true true = true ↔ ks.any (fun t => (t.kind != 6) && (t.kind != 2)) = false ∧ ∀ u ∈ ks, mayB u = true := by
  rw [allB_iff, any_unc]
  constructor
  · intro h
    refine ⟨fun t ht => ?_, fun t ht => (h t ht).1⟩
    rcases (h t ht).2.2 with h1 | h1
    · cases h1
    · exact h1
  · intro h t ht
    exact ⟨h.2 t ht, .inl rfl, .inr (h.1 t ht)⟩
theorem only_bool (k : Int) (hk : k = 3 ∨ k = 4 ∨ k = 5) : ∀ a b b2 b3 b4 e l g : Bool, ((k == 0 || a) && ((k == 1 || k == 6 || (b && b2 && b3 && b4)) && ((k == 4 || k == 5 || e) && l))) =
    (!(((!a) && (k != 0)) || (((!(b && b2 && (b3 && b4))) && ((k != 1) && (k != 6))) || (((!e) && ((k != 4) && (k != 5))) || (g && ((k != 3) && ((k != 4) && (k != 5))))))) && l) := by
  rcases hk with rfl | rfl | rfl <;> decide
theorem only_spare (k n c r d s : Int) (w : List UInt8) (ks : List Tr) (m : Nat) (hk : k = 3 ∨ k = 4 ∨ k = 5) :
    onlyB (.mk k n c r d s w ks) m = (!spareB (.mk k n c r d s w ks) && (ks.length == m)) :=
  only_bool k hk (n == 0) (c == 0) (r == 0) (d == 0) (s == 0) (w == []) (ks.length == m) (decide ((0 : Int) < (ks.length : Int)))
theorem rest_bool : ∀ a b b2 b3 b4 e l k0 k1 k6 : Bool, (((!a) && (!k0)) || (((!(b && b2 && (b3 && b4))) && ((!k1) && (!k6))) || (((!e) && ((!false) && (!false))) || ((!l) && ((!false) && ((!false) && (!false)))))) ) =
    !((k0 || a) && ((k1 || k6 || (b && b2 && b3 && b4)) && (e && l))) := by decide
theorem may_level (t : Tr) : mayB t = true ↔ spareB t = false ∧ soundB t = true ∧ ∀ u ∈ t.kids, mayB u = true := by
  cases t with
  | mk k n c r d s w ks =>
    by_cases h3 : k = 3
    · subst h3
      have hm : mayB (.mk 3 n c r d s w ks) = (onlyB (.mk 3 n c r d s w ks) 1 && allB ks false false) := by rw [mayB]; rfl
      have hs : soundB (.mk 3 n c r d s w ks) = ((ks.length == 1) && !ks.any (fun t => t.kind == 6)) := rfl
      rw [hm, hs, only_spare _ _ _ _ _ _ _ _ _ (.inl rfl)]
      show _ ↔ _ ∧ _ ∧ ∀ u ∈ ks, _
      simp only [Bool.and_eq_true, Bool.not_eq_true', allB_span]
      exact ⟨fun h => ⟨h.1.1, ⟨h.1.2, h.2.1⟩, h.2.2⟩, fun h => ⟨⟨h.1, h.2.1.1⟩, h.2.1.2, h.2.2⟩⟩
    · by_cases h4 : k = 4
      · subst h4
        have hm : mayB (.mk 4 n c r d s w ks) = (onlyB (.mk 4 n c r d s w ks) 2 && (allB ks false false && decide (1 ≤ lvl w))) := by rw [mayB]; rfl
        have hs : soundB (.mk 4 n c r d s w ks) = (decide (0 ≤ (lvl w : Int) - 1) && ((ks.length == 2) && !ks.any (fun t => t.kind == 6))) := rfl
        rw [hm, hs, only_spare _ _ _ _ _ _ _ _ _ (.inr (.inl rfl))]
        show _ ↔ _ ∧ _ ∧ ∀ u ∈ ks, _
        simp only [Bool.and_eq_true, Bool.not_eq_true', allB_span, decide_eq_true_eq]
        exact ⟨fun h => ⟨h.1.1, ⟨by omega, h.1.2, h.2.1.1⟩, h.2.1.2⟩, fun h => ⟨⟨h.1, h.2.1.2.1⟩, ⟨h.2.1.2.2, h.2.2⟩, by have := h.2.1.1; omega⟩⟩
      · by_cases h5 : k = 5
        · subst h5
          have hm : mayB (.mk 5 n c r d s w ks) = (onlyB (.mk 5 n c r d s w ks) ks.length && (allB ks (w != [73, 70]) (w == [67, 79, 85, 78, 84]) && (if w = [73, 70] then ks.length == 3 else if w = [83, 85, 77] ∨ w = [77, 73, 78] ∨ w = [77, 65, 88] ∨ w = [67, 79, 85, 78, 84] then decide (0 < ks.length) else false))) := by rw [mayB]; rfl
          have hs : soundB (.mk 5 n c r d s w ks) = (if w = [73, 70] then ((ks.length == 3) && !ks.any (fun t => t.kind == 6)) else if w = [83, 85, 77] ∨ w = [77, 73, 78] ∨ w = [77, 65, 88] then decide ((0 : Int) < (ks.length : Int)) else if w = [67, 79, 85, 78, 84] then decide ((0 : Int) < (ks.length : Int)) && !ks.any (fun t => (t.kind != 6) && (t.kind != 2)) else false) := rfl
          rw [hm, hs, only_spare _ _ _ _ _ _ _ _ _ (.inr (.inr rfl))]
          show _ ↔ _ ∧ _ ∧ ∀ u ∈ ks, _
          clear hm hs
          have hd : (decide (0 < ks.length) = true) ↔ (decide ((0 : Int) < (ks.length : Int)) = true) := by
            rw [decide_eq_true_eq, decide_eq_true_eq]; omega
          by_cases w1 : w = [73, 70]
          · subst w1
            rw [show (([73, 70] : List UInt8) != [73, 70]) = false from by decide, show (([73, 70] : List UInt8) == [67, 79, 85, 78, 84]) = false from by decide, if_pos rfl, if_pos rfl]
            simp only [Bool.and_eq_true, Bool.not_eq_true', allB_span, beq_self_eq_true, and_true]
            exact ⟨fun h => ⟨h.1, ⟨h.2.2, h.2.1.1⟩, h.2.1.2⟩, fun h => ⟨h.1, ⟨h.2.1.2, h.2.2⟩, h.2.1.1⟩⟩
          · rw [if_neg w1, if_neg w1, show (w != [73, 70]) = true from by simp [w1]]
            by_cases w2 : w = [83, 85, 77] ∨ w = [77, 73, 78] ∨ w = [77, 65, 88]
            · rw [if_pos w2, if_pos (by rcases w2 with h | h | h; exact .inl h; exact .inr (.inl h); exact .inr (.inr (.inl h))), show (w == [67, 79, 85, 78, 84]) = false from by rcases w2 with rfl | rfl | rfl <;> decide]
              simp only [Bool.and_eq_true, Bool.not_eq_true', allB_free, beq_self_eq_true, and_true, hd]
              exact ⟨fun h => ⟨h.1, h.2.2, h.2.1⟩, fun h => ⟨h.1, h.2.2, h.2.1⟩⟩
            · rw [if_neg w2]
              by_cases w3 : w = [67, 79, 85, 78, 84]
              · subst w3
                rw [if_pos (.inr (.inr (.inr rfl))), if_pos rfl, show (([67, 79, 85, 78, 84] : List UInt8) == [67, 79, 85, 78, 84]) = true from by decide]
                simp only [Bool.and_eq_true, Bool.not_eq_true', allB_unc, beq_self_eq_true, and_true, hd]
                exact ⟨fun h => ⟨h.1, ⟨h.2.2, h.2.1.1⟩, h.2.1.2⟩, fun h => ⟨h.1, ⟨h.2.1.2, h.2.2⟩, h.2.1.1⟩⟩
              · rw [if_neg w3, if_neg (by rintro (h | h | h | h); exact w2 (.inl h); exact w2 (.inr (.inl h)); exact w2 (.inr (.inr h)); exact w3 h)]
                simp
        · have hs : ∀ m, onlyB (.mk k n c r d s w ks) m = ((k == 0 || n == 0) && ((k == 1 || k == 6 || (c == 0 && r == 0 && d == 0 && s == 0)) && ((w == []) && ks.length == m))) := by
            intro m
            show ((k == 0 || n == 0) && ((k == 1 || k == 6 || (c == 0 && r == 0 && d == 0 && s == 0)) && ((k == 4 || k == 5 || w == []) && ks.length == m))) = _
            rw [show (k == 4) = false from by simp [h4], show (k == 5) = false from by simp [h5]]
            rfl
          have hs0 : ∀ x : Bool, (x = true → True) := fun _ _ => trivial
          have hsp : spareB (.mk k n c r d s w ks) = !onlyB (.mk k n c r d s w ks) 0 := by
            rw [hs]
            have hl : decide ((0 : Int) < (ks.length : Int)) = !(ks.length == 0) := by
              cases ks <;> simp
            have hu : spareB (.mk k n c r d s w ks) = (((!(n == 0)) && (!(k == 0))) || (((!((c == 0) && (r == 0) && ((d == 0) && (s == 0)))) && ((!(k == 1)) && (!(k == 6)))) || (((!(w == [])) && ((!(k == 4)) && (!(k == 5)))) || ((decide ((0 : Int) < (ks.length : Int))) && ((!(k == 3)) && ((!(k == 4)) && (!(k == 5)))))))) := rfl
            rw [hu, hl, show (k == 3) = false from by simp [h3], show (k == 4) = false from by simp [h4], show (k == 5) = false from by simp [h5]]
            exact rest_bool _ _ _ _ _ _ _ _ _ _
          have hk : onlyB (.mk k n c r d s w ks) 0 = true → ∀ u ∈ ks, mayB u = true := by
            intro h u hu
            rw [hs] at h
            simp only [Bool.and_eq_true, beq_iff_eq, List.length_eq_zero_iff] at h
            rw [h.2.2.2] at hu; cases hu
          rw [hsp, mayB]
          generalize ho : onlyB (.mk k n c r d s w ks) 0 = o at *
          rw [if_neg h3, if_neg h4, if_neg h5]
          have hsd : soundB (.mk k n c r d s w ks) = (if k = 0 then decide (0 ≤ n) else if k = 1 then rightB c r && (c == d && r == s) else if k = 2 then true
  else if k = 3 then exprsB ks 1 else if k = 4 then decide (0 ≤ (lvl w : Int) - 1) && exprsB ks 2 else if k = 5 then calledB w ks
  else if k = 6 then wholeB c r d s else false) := rfl
          rw [hsd, if_neg h3, if_neg h4, if_neg h5]
          show _ ↔ _ ∧ _ ∧ ∀ u ∈ ks, _
          have hw : wholeB c r d s = (rightB c r && rightB d s && decide (c ≤ d) && decide (r ≤ s)) := by
            rw [Bool.eq_iff_iff, wholeB_iff]
            simp only [Bool.and_eq_true, decide_eq_true_eq, rightB_iff]
            omega
          rw [hw]
          cases o with
          | false =>
            have : ∀ p q r s : Prop, ∀ [Decidable p] [Decidable q] [Decidable r] [Decidable s], ∀ x y z : Bool, (if p then false && x else if q then false && y else if r then false else if s then false && z else false) = false := by
              intro p q r s _ _ _ _ x y z
              split
              · rfl
              · split
                · rfl
                · split
                  · rfl
                  · split <;> rfl
            rw [this]
            simp
          | true =>
            simp only [Bool.true_and, Bool.not_true, true_and]
            by_cases h0 : k = 0
            · rw [if_pos h0]
              exact ⟨fun h => ⟨h, hk rfl⟩, fun h => h.1⟩
            · by_cases h1 : k = 1
              · rw [if_neg h0, if_pos h1]
                exact ⟨fun h => ⟨h, hk rfl⟩, fun h => h.1⟩
              · by_cases h2 : k = 2
                · rw [if_neg h0, if_neg h1, if_pos h2]
                  exact ⟨fun h => ⟨h, hk rfl⟩, fun h => h.1⟩
                · rw [if_neg h0, if_neg h1, if_neg h2]
                  by_cases h6 : k = 6
                  · rw [if_pos h6]
                    exact ⟨fun h => ⟨h, hk rfl⟩, fun h => h.1⟩
                  · rw [if_neg h6]
                    exact ⟨fun h => ⟨h, hk rfl⟩, fun h => h.1⟩
theorem fit_may : ∀ (d : Nat) (t : Tr), fitB d t = true ↔ deepT t ≤ d ∧ mayB t = true := by
  intro d
  induction d with
  | zero =>
    intro t
    unfold fitB
    cases t
    rw [deepT]
    simp
  | succ d ih =>
    intro t
    rw [may_level]
    unfold fitB
    simp only [Bool.and_eq_true, Bool.not_eq_true', List.all_eq_true]
    cases t with
    | mk k n c r e s w ks =>
      rw [deepT]
      simp only [Tr.kids]
      have hd : deepL ks + 1 ≤ d + 1 ↔ ∀ u ∈ ks, deepT u ≤ d := by rw [← deepL_iff]; omega
      rw [hd]
      exact ⟨fun h => ⟨fun u hu => ((ih u).1 (h.2.2 u hu)).1, h.1, h.2.1, fun u hu => ((ih u).1 (h.2.2 u hu)).2⟩, fun h => ⟨h.2.1, h.2.2.1, fun u hu => (ih u).2 ⟨h.1 u hu, h.2.2.2 u hu⟩⟩⟩
end Go.Proofs.YteflmfifhmlpiaaDoor
namespace Go.Proofs.YteflmfifhmlpiaaDoor
open Go.RowKit

theorem blk_below {k : Nat} {o : Obj} {w w' : World} (hk : w.heap[k]? = some o) (hb : Below w.heap.size w w') : w'.heap[k]? = some o := by
  rw [hb.block k (Array.getElem?_eq_some_iff.1 hk).1]; exact hk
theorem cells8_of {k : Nat} {v0 v1 v2 v3 v4 v5 v6 v7 : Value} {fz : Nat × Nat} {w : World} (hk : w.heap[k]? = some (.cells #[v0, v1, v2, v3, v4, v5, v6, v7] 29 fz)) :
    w.cell? ⟨k, 0, none⟩ = some v0 ∧ w.cell? ⟨k, 1, none⟩ = some v1 ∧ w.cell? ⟨k, 2, none⟩ = some v2 ∧ w.cell? ⟨k, 3, none⟩ = some v3 ∧ w.cell? ⟨k, 4, none⟩ = some v4 ∧ w.cell? ⟨k, 5, none⟩ = some v5 ∧ w.cell? ⟨k, 6, none⟩ = some v6 ∧ w.cell? ⟨k, 7, none⟩ = some v7 := by
  have c := fun j => Lib.cell_of_heap hk j
  exact ⟨c 0, c 1, c 2, c 3, c 4, c 5, c 6, c 7⟩
end Go.Proofs.YteflmfifhmlpiaaDoor
namespace Go.Proofs.YteflmfifhmlpiaaDoor

def MoM (t : Tr) : Mode → Prop
  | .tree => mayB t = true ∧ t.kind ≠ 6
  | .wi _ => mayB t = true ∧ t.kind ≠ 6
  | .item k => mayB t = true ∧ (k = true → t.kind = 6 ∨ t.kind = 2)
  | .its k => t.kids ≠ [] ∧ allB t.kids true k = true
theorem pr_may {md : Mode} {t : Tr} {s : List UInt8} {ts : List Tok} (h : Pr md t s ts) : MoM t md := by
  induction h with
  | @num n _ => exact ⟨by unfold numT; rw [mayB]; simp [onlyB], by simp [numT, Tr.kind]⟩
  | @read c r h => exact ⟨by unfold readT; rw [mayB]; simp [onlyB, h], by simp [readT, Tr.kind]⟩
  | bad => exact ⟨by unfold badT; rw [mayB]; simp [onlyB], by simp [badT, Tr.kind]⟩
  | @neg a s ts _ ih => exact ⟨by unfold negT; rw [mayB, allB, allB]; simp [onlyB, ih.1, ih.2], by simp [negT, Tr.kind]⟩
  | @op w sa sb a b ta tb hw _ _ iha ihb => exact ⟨by unfold opT; rw [mayB, allB, allB, allB]; simp [onlyB, iha.1, iha.2, ihb.1, ihb.2, hw], by simp [opT, Tr.kind]⟩
  | plain _ _ ih => exact ih
  | brk _ _ _ ih => exact ih
  | @cif a b c sa sb sc ta tb tc _ _ _ iha ihb ihc =>
    have H : allB [a, b, c] false false = true := by rw [allB, allB, allB, allB]; simp [iha.1, iha.2, ihb.1, ihb.2, ihc.1, ihc.2]
    exact ⟨by unfold callT; rw [mayB]; simp [onlyB, H], by simp [callT, Tr.kind]⟩
  | @call w s ks ts hw _ ih =>
    have hne : ks ≠ [] := ih.1
    have ha : allB ks true (w == [67, 79, 85, 78, 84]) = true := ih.2
    have hp : 0 < ks.length := List.length_pos_iff.2 hne
    refine ⟨?_, by simp [callT, Tr.kind]⟩
    unfold callT
    have e1 : (w != [73, 70]) = true := by rcases hw with rfl | rfl | rfl | rfl <;> decide
    have e2 : ¬ w = [73, 70] := by rcases hw with rfl | rfl | rfl | rfl <;> decide
    rw [mayB, e1, ha, if_neg e2, if_pos hw, decide_eq_true hp]
    simp [onlyB]
  | itT _ ih => exact ⟨ih.1, fun h => by cases h⟩
  | itBad => exact ⟨by unfold badT; rw [mayB]; simp [onlyB], fun _ => .inr (by simp [badT, Tr.kind])⟩
  | @itSpan k c r d s h1 h2 h3 h4 => exact ⟨by unfold spanT; rw [mayB]; simp [onlyB, h1, h2, h3, h4], fun _ => .inl (by simp [spanT, Tr.kind])⟩
  | @last k t s ts _ ih =>
    refine ⟨by simp [callT, Tr.kids], ?_⟩
    show allB [t] true k = true
    rw [allB, allB]
    cases k with
    | false => simp [ih.1]
    | true => rcases ih.2 rfl with e | e <;> simp [ih.1, e]
  | @more k t ks s s' ts ts' _ _ ih ih' =>
    have ha : allB ks true k = true := ih'.2
    refine ⟨by simp [callT, Tr.kids], ?_⟩
    show allB (t :: ks) true k = true
    rw [allB]
    cases k with
    | false => simp [ih.1, ha]
    | true => rcases ih.2 rfl with e | e <;> simp [ih.1, e, ha]
end Go.Proofs.YteflmfifhmlpiaaDoor
namespace Go.Proofs.YteflmfifhmlpiaaDoor
open Go.RowKit

theorem place_len (c r : Int) : (placeText c r).length ≤ 100 := by
  unfold placeText
  by_cases h : rightB c r = true
  · rw [if_pos h]
    obtain ⟨_, _, r0, r1⟩ := (rightB_iff c r).1 h
    have := itoa_len (r + 1) (by unfold B64; omega)
    simp; omega
  · rw [if_neg h]; simp
theorem two_of {ks : List Tr} (h : ks.length = 2) : ∃ u v, ks = [u, v] := by
  match ks, h with
  | [u, v], _ => exact ⟨u, v, rfl⟩
theorem one_elem {ks : List Tr} (h : ks.length = 1) : ∃ u, ks = [u] := by
  match ks, h with
  | [u], _ => exact ⟨u, rfl⟩
end Go.Proofs.YteflmfifhmlpiaaDoor
