/- Texts joined: RfG. -/
import Derived.Test.YteflmfifhmlpiaaDoorMa17
import Derived.Test.YteflmfifhmlpiaaDoorMa22
import Derived.Laws.Rows
set_option linter.all false
set_option linter.unusedVariables false
set_option linter.unusedSimpArgs false
namespace Go.Proofs.YteflmfifhmlpiaaDoor
open Go.RowKit Go.Shelf

attribute [local go_sem] Oper.semAt_some

theorem marked_zero : Tryd.zeroCells49 = Array.replicate 1024 (.bool false) := by kernel_rfl
theorem marked_under : Tryd.prog.underlying 49 = some (.array 1024 4) := by kernel_rfl
theorem marked_info : (Tryd.prog.info? 49).map (·.size) = some 1024 := by kernel_rfl
def MK (V : World) (B : Nat) (f : Nat → Bool) : Prop := ∃ c : Array Value, V.heap[B]? = some (.cells c 49 (0, 0)) ∧ c.size = 1024 ∧ ∀ j, j < 1024 → c[j]? = some (.bool (f j))
theorem MK.world {V V' : World} {B : Nat} {f : Nat → Bool} (h : MK V B f) (hb : V'.heap[B]? = V.heap[B]?) : MK V' B f := by
  obtain ⟨c, h1, h2, h3⟩ := h
  exact ⟨c, hb.trans h1, h2, h3⟩
theorem MK.lt {V : World} {B : Nat} {f : Nat → Bool} (h : MK V B f) : B < V.heap.size := by
  obtain ⟨c, h1, _⟩ := h
  exact (Array.getElem?_eq_some_iff.1 h1).1
theorem MK.cell {V : World} {B : Nat} {f : Nat → Bool} (h : MK V B f) {j : Nat} (hj : j < 1024) : V.cell? ⟨B, j, none⟩ = some (.bool (f j)) ∧ V.frozen? ⟨B, j, none⟩ = false := by
  obtain ⟨c, h1, h2, h3⟩ := h
  refine ⟨?_, by simp [World.frozen?, h1]⟩
  rw [Lib.cell_of_heap h1 j]
  exact h3 j hj
theorem MK.set {V : World} {B : Nat} {f g : Nat → Bool} (h : MK V B f) {j : Nat} (hg : ∀ i, i < 1024 → g i = (f i || decide (i = j))) : MK (V.setCell ⟨B, j, none⟩ (.bool true)) B g := by
  obtain ⟨c, h1, h2, h3⟩ := h
  refine ⟨c.setIfInBounds j (.bool true), ?_, by rw [Array.size_setIfInBounds, h2], fun i hi => ?_⟩
  · have hlt := (Array.getElem?_eq_some_iff.1 h1).1
    have he := (Array.getElem?_eq_some_iff.1 h1).2
    show (V.heap.modify B _)[B]? = _
    rw [Array.getElem?_eq_getElem (by rw [Array.size_modify]; exact hlt), Array.getElem_modify_self, he]
    rfl
  · rw [Array.getElem?_setIfInBounds, hg i hi]
    by_cases e : j = i
    · subst e
      rw [if_pos rfl, if_pos (by rw [h2]; exact hi)]
      simp
    · rw [if_neg e, h3 i hi, decide_eq_false (fun h => e h.symm), Bool.or_false]
theorem run_marked (c : Array Value) (i : Nat) (b : Bool) (hs : c.size = 1024) (hi : i < 1024) (h : c[i]? = some (.bool b)) (w : World) : (Instr.index 49 (.agg c) (.int .i64 (i : Int))).run Tryd.prog w = .ok (.bool b) w := by
  have hh : c[i]'(by omega) = .bool b := by
    have := Array.getElem?_eq_some_iff.1 h
    exact this.2
  simp [Instr.index, go_sem, marked_under, hs, hi, hh, h]
theorem MK.congr {V : World} {B : Nat} {f g : Nat → Bool} (h : MK V B f) (hg : ∀ j, j < 1024 → f j = g j) : MK V B g := by
  obtain ⟨c, h1, h2, h3⟩ := h
  exact ⟨c, h1, h2, fun j hj => by rw [h3 j hj, hg j hj]⟩
theorem wpIn_load_marked {F : Fence} {n : Nat} {P : Program} {ops : Array Oper} {rest : List Oper} {o : Oper} {a : Act} {w : World} {Q : Exit → Act → World → Prop} (hgd : o.guard = none) (ty : TypeId) (x : Operand) (ho : o.op = .load ty x)
    (g : Nat) (hx : a.eval x = .pointer (some ⟨g, 0, none⟩)) (t : TypeId) (cs : Array Value) (fr : Nat × Nat) (d : TypeDesc) (hg : w.heap[g]? = some (.cells cs t fr))
    (hu : P.underlying ty = some d) (hd : (match d with | .struct _ | .array _ _ => true | _ => false) = true) (hi : (P.info? ty).map (·.size) = some cs.size)
    (h : wpListIn F n P ops Q rest (a.put o.dst (.agg cs)) w) : wpListIn F n P ops Q (o :: rest) a w := by
  refine wpListIn_plain hgd fun K hK => ?_
  unfold Oper.wpIn
  refine ⟨by simp [Oper.about, ho], ?_⟩
  rw [Oper.semAt_plain F _ _ (by rw [ho]; intro c hc; cases hc)]
  unfold execOp
  simp only [ho, hx, Instr.loadAt, Instr.sureAddr, Sem.run_bind, Sem.run_pure, Result.andThen_ok, run_loadVar_row w g t ty cs fr d hg hu hd hi]
  exact hK _ _ h
def jsOf (u : Tr) : List Nat := (List.range 1024).filter fun j => hasB u.c1 u.r1 u.c2 u.r2 (atC (j : Int)) (atR (j : Int))
set_option maxRecDepth 100000 in
theorem cells_js (u : Tr) : cellsTo u.c1 u.r1 u.c2 u.r2 1024 = (jsOf u).map fun (j : Nat) => (atC (j : Int), atR (j : Int)) := by unfold cellsTo jsOf; rfl
theorem js_mem {u : Tr} {j : Nat} : j ∈ jsOf u ↔ j < 1024 ∧ hasB u.c1 u.r1 u.c2 u.r2 (atC (j : Int)) (atR (j : Int)) = true := by
  unfold jsOf
  generalize 1024 = N
  rw [List.mem_filter, List.mem_range]
theorem js_lt {u : Tr} {k j : Nat} (h : (jsOf u)[k]? = some j) : j < 1024 := (js_mem.1 (List.mem_of_getElem? h)).1
theorem idx_at {j : Nat} (h : j < 1024) : idxN (atC (j : Int)) (atR (j : Int)) = (j : Int) := by
  unfold idxN
  rw [atC_of j h, atR_of j h, if_pos ((rightB_iff _ _).2 ⟨by omega, by omega, by omega, by omega⟩)]
  omega
def mkF (t : Tr) (i : Nat) (j : Nat) : Bool := anyH (atC (j : Int)) (atR (j : Int)) (rgs t) i
theorem mkF_step {t u : Tr} {i : Nat} (h : (rgs t)[i]? = some u) {j : Nat} (hj : j < 1024) : mkF t (i + 1) j = (mkF t i j || decide (j ∈ jsOf u)) := by
  have e : decide (j ∈ jsOf u) = hasB u.c1 u.r1 u.c2 u.r2 (atC (j : Int)) (atR (j : Int)) := by
    rw [Bool.eq_iff_iff, decide_eq_true_iff, js_mem]
    exact ⟨fun h => h.2, fun h => ⟨hj, h⟩⟩
  unfold mkF
  rw [anyH_step h, e]
def rdM (t : Tr) (i : Nat) : List (Int × Int) := ((List.range i).filter fun (j : Nat) => mkF t (rgs t).length j).map fun (j : Nat) => (atC (j : Int), atR (j : Int))
theorem rdM_yes {t : Tr} {i : Nat} (h : mkF t (rgs t).length i = true) : rdM t (i + 1) = rdM t i ++ [(atC i, atR i)] := by
  unfold rdM; rw [List.range_succ, List.filter_append, List.map_append]; simp [h]
theorem rdM_no {t : Tr} {i : Nat} (h : mkF t (rgs t).length i = false) : rdM t (i + 1) = rdM t i := by
  unfold rdM; rw [List.range_succ, List.filter_append, List.map_append]; simp [h]
theorem rdM_le (t : Tr) (i : Nat) : (rdM t i).length ≤ i := by
  unfold rdM; rw [List.length_map]; exact Nat.le_trans (List.length_filter_le _ _) (by simp)
set_option maxHeartbeats 8000000 in
set_option maxRecDepth 100000 in
theorem pReads_any {t : Tr} (hW : Wid t) (hc : cntT t ≤ 1000000) (w : World) (A : Option Addr) (ca : Nat) (hA : KV w (fun _ => True) t A) {B : Nat} (hSB : B ≤ w.heap.size) (hSt : Strs B B w) :
    Calls Tryd.prog 11 #[tv t A ca] w fun e w' => ∃ v, e = .returned v ∧ w'.ownsRow w.heap.size 24 2 v (rdM t 1024).length (cells2 (rdM t 1024)) ∧ Below w.heap.size w w' := by
  have hA0 : KV w (fun b => b < w.heap.size) t A := hA.low.imp fun _ h => h.2
  have HPa := Lib.hid (fun w => pranges_any t w A ca)
  obtain ⟨i0, hi0, hz0, hz1, hz2⟩ := info_parts place_info
  have HI := Lib.hid hi0
  have HZ0 := Lib.hid hz0
  have HZ1 := Lib.hid hz1
  have HZ2 := Lib.hid hz2
  clear hi0 hz0 hz1 hz2
  unfold tv at *
  refine (callsIn_wide (n := 9)).1 (callsIn_of_wp_marks Tryd.func11 rfl trivial ?_ rfl)
  simp only [Tryd.ntmps11, List.size_toArray, List.length_cons, List.length_nil, Nat.reduceAdd, Nat.reduceSub, Array.replicate_succ, Array.replicate_zero, List.push_toArray, List.append_toArray, List.nil_append, List.cons_append]
  gi_wp2
  refine ⟨trivial, ?_⟩
  refine (callsIn_wide.2 (HPa.out _)).mono ?_
  rintro e w1 ⟨rfl, rfl⟩
  clear HPa
  gi_wp2
  obtain ⟨W1, hW1⟩ : ∃ W1, (((w.alloc (.cells #[.int .i64 t.kind, .int .i64 t.num, .int .i64 t.c1, .int .i64 t.r1, .int .i64 t.c2, .int .i64 t.r2, .string ⟨t.word.toArray⟩, .slice A t.kids.length ca] 29)).alloc (.cells Tryd.zeroCells49 49)).alloc (.cells (V8L t A ca) 29)) = W1 := ⟨_, rfl⟩
  have hbW : Below w.heap.size w W1 := by rw [← hW1]; exact (((Below.refl _ _).alloc (Nat.le_refl _) _).alloc (by simp) _).alloc (by simp; omega) _
  have hz1 : W1.heap.size = w.heap.size + 3 := by rw [← hW1]; simp
  have hCT : CT W1 (w.heap.size + 1 + 1) t A ca := by
    rw [← hW1]
    unfold V8L
    refine ⟨?_, ?_, ?_, ?_, ?_, ?_, ?_, ?_⟩ <;> simp [go_sem]
  have hn0 : MK W1 (w.heap.size + 1) (mkF t 0) := by
    refine ⟨Tryd.zeroCells49, ?_, by rw [marked_zero, Array.size_replicate], fun j hj => by rw [marked_zero, Array.getElem?_replicate, if_pos hj]; rfl⟩
    rw [← hW1, Below.heap_alloc _ _ _ (by simp)]
    have := World.alloc_heap_new (w.alloc (.cells #[.int .i64 t.kind, .int .i64 t.num, .int .i64 t.c1, .int .i64 t.r1, .int .i64 t.c2, .int .i64 t.r2, .string ⟨t.word.toArray⟩, .slice A t.kids.length ca] 29)) (.cells Tryd.zeroCells49 49)
    rwa [World.size_alloc] at this
  rw [hW1]
  clear hW1
  have hA1 : KV W1 (fun b => b < w.heap.size) t A := hA0.kept (Kept.of_below hbW)
  refine wp_range (gf := 48) (lb := #[.pointer (some ⟨w.heap.size + 1 + 1, 0, none⟩)]) rfl (enters_of Tryd.func48 (by kernel_rfl) rfl)
    (ranges_yields hW hc hCT hA1 (fun k hk => by omega) (Nat.le_trans hSB hbW.size) (hSt.later hSB hbW)) (Below.refl _ _) (fun x args h => by rw [h]; rfl)
    (fun k => k = w.heap.size + 1) (by rintro k rfl; exact ⟨by omega, by rintro (h | h); omega; have h2 : w.heap.size + 1 < w.heap.size := h; omega⟩) (by rintro k (rfl | h); omega; have h2 : k < w.heap.size := h; omega)
    (fun i V => MK V (w.heap.size + 1) (mkF t i)) (fun _ _ => False)
    (fun i A B hab h => h.world (hab.block _ (by omega)))
    (fun _ _ _ _ h => h) hn0
    (fun u a' V => ∃ Bx, W1.heap.size ≤ Bx ∧ C4 V Bx u ∧ a' = { tmps := #[.agg #[.int .i64 t.kind, .int .i64 t.num, .int .i64 t.c1, .int .i64 t.r1, .int .i64 t.c2, .int .i64 t.r2, .string ⟨t.word.toArray⟩, .slice A t.kids.length ca], .pointer (some ⟨w.heap.size, 0, none⟩), .slice none 0 0, .pointer (some ⟨w.heap.size + 1, 0, none⟩), .pointer (some ⟨Bx, 0, none⟩), undef, undef, undef, undef, undef, undef, undef,
      .agg #[.int .i64 t.kind, .int .i64 t.num, .int .i64 t.c1, .int .i64 t.r1, .int .i64 t.c2, .int .i64 t.r2, .string ⟨t.word.toArray⟩, .slice A t.kids.length ca], .func (.func 48) #[] #[.pointer (some ⟨w.heap.size + 1 + 1, 0, none⟩)], .agg #[.int .i64 u.c1, .int .i64 u.r1, .int .i64 u.c2, .int .i64 u.r2], undef, undef, undef, undef, undef, undef, undef, undef, undef, undef, undef, undef, undef, undef, undef, undef, undef, undef, undef, undef, undef, undef, undef, undef, undef, undef, undef, undef], defers := [] })
    (fun x a' V l' r o hl ⟨Bx, h1, h2, h3⟩ => ⟨Bx, h1, h2.turn hl o, h3⟩)
    ?assign ?body ?done ?stop
  case assign =>
    rintro l' i u args V K hx he hz hK
    subst he
    gi_wp2
    exact hK _ _ ((Below.refl _ _).alloc (Nat.le_refl _) _) ⟨V.heap.size, hz, by refine ⟨?_, ?_, ?_, ?_⟩ <;> simp [go_sem], rfl⟩
  case body =>
    rintro l' i u a' V hx hsV hmk ⟨Bx, hBx, ⟨v0, v1, v2, v3⟩, rfl⟩
    have HH := Lib.hid (fun w => pcells_any u.c1 u.r1 u.c2 u.r2 w)
    have HST := Lib.hid (fun j hj => mkF_step (j := j) hx hj)
    have hzV := hsV.size
    gi_wp2
    refine ⟨trivial, ?_⟩
    refine (CallsIn.inRound l' (callsIn_wide.2 (HH.out _))).mono ?_
    rintro e V2 ⟨rv, rfl, hrow, b2⟩
    obtain ⟨RA, rc, rfl, hat⟩ := own_shape hrow
    have HM2 := Lib.hid (hmk.world (b2.block _ hmk.lt))
    have HS2 := Lib.hid (Sav.of_below (C := fun k => k = w.heap.size + 1) b2)
    have zV2 := b2.size
    have HAT := Lib.hid hat
    have HLow : Hid (∀ g, RA = some ⟨g, 0, none⟩ → g ≠ w.heap.size + 1) := Lib.hid fun g hg => by
      have := (hrow.lt g (by rw [hg]; rfl)).1
      omega
    have hlen := cellsTo_le u.c1 u.r1 u.c2 u.r2 1024
    clear v0 v1 v2 v3 hmk hrow b2 hat HH
    have hL : (cellsTo u.c1 u.r1 u.c2 u.r2 1024).length = (jsOf u).length := by rw [cells_js, List.length_map]
    gi_wp2
    rw [hL] at hlen
    try rw [hL]
    gi_loopw [18] (fun n wr => ∃ k : Nat, k ≤ (jsOf u).length ∧ n = .int .i64 (k : Int) ∧ MK wr (w.heap.size + 1) (fun j => mkF t i j || decide (j ∈ (jsOf u).take k)) ∧ Sav (fun k => k = w.heap.size + 1) V2 wr) (fun n _ => (jsOf u).length - (intOf n).toNat)
    case atStart => exact ⟨0, Nat.zero_le _, rfl, HM2.out.congr fun j _ => by simp, Sav.refl _ _⟩
    case round =>
      obtain ⟨k, hk, rfl, hmk, hsw⟩ := hrel
      have zw := hsw.size
      by_cases hlt : k < (jsOf u).length
      · obtain ⟨g, rfl, hgl, hat⟩ := HAT.out k (by omega)
        have hj : (jsOf u)[k]? = some ((jsOf u)[k]'hlt) := List.getElem?_eq_getElem hlt
        have hj2 := js_lt hj
        obtain ⟨a0, a1⟩ := hat k (atC ((jsOf u)[k]'hlt : Nat)) (atR ((jsOf u)[k]'hlt : Nat)) (by rw [cells_js, List.getElem?_map, hj]; rfl)
        have a2 := hsw.cell (HLow.out g rfl) a0
        have a3 := hsw.cell (HLow.out g rfl) a1
        have HX := Lib.hid (fun w => pindex_any (atC ((jsOf u)[k]'hlt : Nat)) (atR ((jsOf u)[k]'hlt : Nat)) w)
        rw [idx_at hj2] at HX
        have HTK : Hid ((jsOf u).take (k + 1) = (jsOf u).take k ++ [(jsOf u)[k]'hlt]) := Lib.hid (by rw [List.take_add_one, hj]; rfl)
        generalize (jsOf u)[k]'hlt = q at *
        generalize atC (q : Int) = qx at *
        generalize atR (q : Int) = qy at *
        clear a0 a1 hat hj
        gi_wp2
        refine ⟨trivial, ?_⟩
        refine (CallsIn.inRound l' (callsIn_wide.2 (HX.out _))).mono ?_
        rintro e w3 ⟨rfl, b3⟩
        have hz3 : w.heap.size + 1 < wr.heap.size := hmk.lt
        have b3' : Below wr.heap.size wr w3 := ((Below.refl _ _).alloc (Nat.le_refl _) _).trans (b3.mono (by simp))
        have hm3 := hmk.world (b3'.block _ hz3)
        have hs3 : Sav (fun k => k = w.heap.size + 1) V2 w3 := hsw.trans (Sav.of_below b3')
        obtain ⟨c3, f3⟩ := hm3.cell hj2
        have HM3 := Lib.hid hm3
        have HS3 := Lib.hid hs3
        clear b3 b3' hm3 hs3 hmk hsw a2 a3 HX
        gi_wp2
        go_roundw
        case rel => exact ⟨k + 1, by omega, by go_num, HM3.out.set fun j _ => by rw [HTK.out]; rw [Bool.eq_iff_iff]; simp [or_assoc], Sav.setCell (C := fun k => k = w.heap.size + 1) (g := w.heap.size + 1) HS3.out (.inl rfl) q (.bool true)⟩
        case measure => simp [intOf]; omega
      · have hke : k = (jsOf u).length := by omega
        subst hke
        gi_wp2
        refine ⟨HS2.out.trans hsw, hmk.congr fun j hj => ?_⟩
        rw [HST.out j hj, List.take_length]
  case done =>
    rintro D V hD hsV hmk hK
    obtain ⟨c, hch, hcs, hcj⟩ := hmk
    have HCH := Lib.hid hch
    have HCS := Lib.hid hcs
    have HCJ := Lib.hid hcj
    have HKD := Lib.hid hK
    have hzV := hsV.size
    have HSV := Lib.hid hsV
    have hDV : D < V.heap.size := (Array.getElem?_eq_some_iff.1 hK).1
    clear hch hcs hcj hK hsV
    gi_wp2_with (refine wpIn_load_marked rfl 49 _ rfl (w.heap.size + 1) rfl 49 c (0, 0) _ HCH.out marked_under rfl (by rw [HCS.out]; exact marked_info) ?_)
    gi_loopw [7, 27] (fun v n wr => ∃ i : Nat, i ≤ 1024 ∧ n = .int .i64 (i : Int) ∧ wr.ownsRow V.heap.size 24 2 v (rdM t i).length (cells2 (rdM t i)) ∧ Below V.heap.size V wr) (fun _ n _ => leftG n)
    case atStart => exact ⟨0, by omega, rfl, World.ownsRow_nil _ _ _ _, Below.refl _ _⟩
    case round =>
      obtain ⟨i, hi, rfl, hown, hb⟩ := hrel
      have HO := Lib.hid hown
      have hlen2 := rdM_le t i
      have zr := hb.size
      clear hown
      by_cases hlt : i < 1024
      · have hrun := run_marked c i (mkF t (rgs t).length i) HCS.out hlt (HCJ.out i hlt)
        have HA := Lib.hid (fun w => pat_any (i : Int) w)
        cases hm : mkF t (rgs t).length i with
        | true =>
          have HS := Lib.hid (rdM_yes hm)
          rw [hm] at hrun
          generalize atC (i : Int) = qx at *
          generalize atR (i : Int) = qy at *
          clear hm
          gi_wp2
          refine ⟨trivial, ?_⟩
          refine (callsIn_wide.2 (HA.out _)).mono ?_
          rintro e w2 ⟨rfl, b2⟩
          have HO2 := Lib.hid (own_below HO.out b2)
          have hb2 := hb.trans (b2.mono (by omega))
          have z2 := hb2.size
          clear b2 HA
          gi_wp2_with (gi_at_builtin
                       refine wpListIn_append_own _ rfl _ _ 37 rfl V.heap.size 24 i0 (.agg #[.int .i64 0, .int .i64 0]) 2 16 Tryd.underlying37 HI.out HZ0.out HZ1.out HZ2.out rfl (by decide) _ _ _ rfl ((HO2.out.alloc _).alloc _)
                         ⟨w2.heap.size + 1, 0, none⟩ 1 1 [.int .i64 qx, .int .i64 qy] rfl rfl ?c1 ?c2 ?c3 ?c4 ?c5 ?_)
          case c1 =>
            intro j u hj
            match j, hj with
            | 0, hj => simp at hj; subst hj; simp [Addr.add, go_sem]
            | 1, hj => simp at hj; subst hj; simp [Addr.add, go_sem]
          case c2 => intro u hu; simp at hu; rcases hu with rfl | rfl <;> rfl
          case c3 => unfold maxLen; omega
          case c4 => omega
          case c5 => simp; omega
          intro v' w4 hown4 hg4 _
          rw [← cells2_snoc] at hown4
          have e5 : (rdM t i).length + 1 = (rdM t (i + 1)).length := by rw [HS.out]; simp
          rw [e5, ← HS.out] at hown4
          have HO4 := Lib.hid hown4
          clear hown4 e5
          have hb4 : Below V.heap.size V w4 := ((hb2.alloc z2 _).alloc (by simp; omega) _).grown hg4 (by simp; omega) (fun g hgg => (HO2.out.lt g hgg).1)
          clear hg4
          gi_wp2
          go_roundw
          case rel => exact ⟨i + 1, by omega, by go_num, HO4.out, hb4⟩
          case measure => simp [leftG, intOf]; omega
        | false =>
          have HS := Lib.hid (rdM_no hm)
          rw [hm] at hrun
          clear hm HA
          have HO3 := HO.out
          rw [← HS.out] at HO3
          have HO4 := Lib.hid HO3
          clear HO3
          gi_wp2
          go_roundw
          case rel => exact ⟨i + 1, by omega, by go_num, HO4.out, hb⟩
          case measure => simp [leftG, intOf]; omega
      · have hi2 : i = 1024 := by omega
        subst hi2
        have hKr : wr.heap[D]? = some (.deferred (some [])) := (hb.block D hDV).trans HKD.out
        gi_wp2
        refine ⟨by simp, .inl ⟨_, _, rfl, run_takeDeferred hKr, ?_⟩⟩
        refine ⟨_, results_tmp rfl _ _ _, _, rfl, ?_, hbW.trans (((HSV.out.trans (Sav.of_below hb)).putObj (.inr (by omega)) _).below (fun k hk h => by have h2 : k = w.heap.size + 1 := h; omega) (by omega))⟩
        exact (ownsRow_putObj HO.out _ hKr rfl).mono (by omega)
  case stop =>
    rintro D c V hD hsV h hK
    exact h.elim
end Go.Proofs.YteflmfifhmlpiaaDoor
