/- Texts joined: TsK, TsL, NdOk, NdO. -/
import Derived.Test.YtjgjacihdggimaaGreatDoorDk13
import Derived.Test.YtjgjacihdggimaaGreatDoorDk04
import Derived.Test.YtjgjacihdggimaaGreatDoorDk03
import Derived.Test.YtjgjacihdggimaaGreatDoorDk06
set_option linter.all false
namespace Go.Proofs.YtjgjacihdggimaaGreatDoor
open Go.RowKit
theorem run_append_zeroO {P : Program} (w : World) (t ty e : TypeId) (i : TypeInfo) (ht : P.underlying t = some (.slice e)) (hi : P.info? e = some i) (O : Option Addr) (N co : Nat) (hN : N ≤ co) (A : Option Addr) (c : Nat) :
    (Builtin.append_ #[t, t] ty #[.slice O N co, .slice A 0 c]).run P w = .ok (.slice O N co) w := by
  cases O <;> cases A <;> simp [Builtin.append_, run_underlying ht, sizeOf, typeInfo, hi, Builtin.lenOf, Builtin.firstCells, loadCells, loadCellsFrom, storeCells, hN]
theorem wpList_append_zeroO {P : Program} {w : World} {ops : Array Oper} {rest : List Oper} {o : Oper} {a : Act} {Q : Exit → Act → World → Prop} (hgd : o.guard = none) (s x : Operand) (t : TypeId)
    (ho : o.op = .call { callee := .builtin .append, args := #[s, x], argTypes := #[t, t] }) (e : TypeId) (i : TypeInfo) (ht : P.underlying t = some (.slice e)) (hi : P.info? e = some i) (O : Option Addr) (N co : Nat) (hN : N ≤ co) (A : Option Addr) (c : Nat)
    (hs : a.eval s = .slice O N co) (hx : a.eval x = .slice A 0 c) (h : wpList P ops Q rest (a.put o.dst (.slice O N co)) w) : wpList P ops Q (o :: rest) a w := by
  refine wpList_plain hgd fun K' hK' => ?_
  unfold Oper.wp execOp
  simp only [ho, Go.resolve, invoke, builtin, Sem.run_bind, Sem.run_pure, Result.andThen_ok, List.map_toArray, List.map_cons, List.map_nil, hs, hx, run_append_zeroO w t o.type e i ht hi O N co hN A c]
  exact hK' _ _ h
theorem bel_dead {s : Sh} {h : Int} (d : Nat) (e : live s h = false) : belL s d h = none := by
  cases d with
  | zero => rw [belL]
  | succ d =>
    rw [belL]
    unfold live at e
    cases h1 : ndAt s h with
    | none => rfl
    | some n => rw [h1] at e; cases e
theorem bel_live {s : Sh} {h : Int} (d : Nat) (e : live s h = true) : belL s (d + 1) h = if (getN s h).refs.length > 32 then none else if (getN s h).kind = 1 ∧ (getN s h).nums.length = 1 then some [⟨(getN s h).nums.headD 0, (getN s h).text⟩] else belR (belL s d) (getN s h).refs [] := by
  rw [belL]
  unfold live at e
  unfold getN
  cases h1 : ndAt s h with
  | none => rw [h1] at e; cases e
  | some n => rfl
theorem belR_next {f : Int → Option (List En)} {refs : List Int} {i : Nat} {r : Int} {out l : List En} (hr : refs[i]? = some r) (hf : f r = some l) (hl : (out ++ l).length ≤ 1024) : belR f (refs.drop i) out = belR f (refs.drop (i + 1)) (out ++ l) := by
  obtain ⟨h1, h2⟩ := List.getElem?_eq_some_iff.1 hr
  rw [List.drop_eq_getElem_cons h1, h2, belR, hf]
  exact if_neg (by omega)
theorem belR_much {f : Int → Option (List En)} {refs : List Int} {i : Nat} {r : Int} {out l : List En} (hr : refs[i]? = some r) (hf : f r = some l) (hl : 1024 < (out ++ l).length) : belR f (refs.drop i) out = none := by
  obtain ⟨h1, h2⟩ := List.getElem?_eq_some_iff.1 hr
  rw [List.drop_eq_getElem_cons h1, h2, belR, hf]
  exact if_pos hl
theorem belR_none {f : Int → Option (List En)} {refs : List Int} {i : Nat} {r : Int} {out : List En} (hr : refs[i]? = some r) (hf : f r = none) : belR f (refs.drop i) out = none := by
  obtain ⟨h1, h2⟩ := List.getElem?_eq_some_iff.1 hr
  rw [List.drop_eq_getElem_cons h1, h2, belR, hf]
theorem belR_len (f : Int → Option (List En)) : ∀ (refs : List Int) (out l : List En), out.length ≤ 1024 → belR f refs out = some l → l.length ≤ 1024
  | [], out, l, h, e => by rw [belR] at e; rw [← Option.some.inj e]; exact h
  | r :: rs, out, l, h, e => by
    rw [belR] at e
    cases h1 : f r with
    | none => rw [h1] at e; cases e
    | some q =>
      rw [h1] at e
      change (if (out ++ q).length > 1024 then none else belR f rs (out ++ q)) = some l at e
      split at e
      · cases e
      · exact belR_len f rs _ l (by omega) e
theorem bel_len {s : Sh} {h : Int} {d : Nat} {l : List En} (e : belL s d h = some l) : l.length ≤ 1024 := by
  cases d with
  | zero => rw [belL] at e; cases e
  | succ d =>
    rw [belL] at e
    cases h1 : ndAt s h with
    | none => rw [h1] at e; cases e
    | some n =>
      rw [h1] at e
      change (if n.refs.length > 32 then none else if n.kind = 1 ∧ n.nums.length = 1 then some [(⟨n.nums.headD 0, n.text⟩ : En)] else belR (belL s d) n.refs []) = some l at e
      split at e
      · cases e
      · split at e
        · rw [← Option.some.inj e]; simp
        · exact belR_len _ _ _ _ (by simp) e
def BelP (w : World) (r : Option (List En)) (e : Ending) (w' : World) : Prop :=
  ∃ O co, e = .returned (.tuple #[.slice O (r.getD []).length co, .bool r.isSome]) ∧ (r.getD []).length ≤ co ∧ RowE w' (fun g => w.heap.size ≤ g) O (r.getD []) ∧ Below w.heap.size w w'
theorem one_rowE (W : World) (z : Nat) (hz : W.heap.size = z) (x : En) : AtR enW 2 (W.alloc (.cells (enW x).toArray 75)) z 0 [x] := by
  subst hz
  exact one_row (f := enW) (n := 2) (E := 75) W x
theorem leaf_bel {w w1 : World} {cs : Array Value} {T : TypeId} {x : En} (hb : Below w.heap.size w w1) {r : Option (List En)} (he : r = some [x]) :
    BelP w r (.returned (.tuple #[.slice (some ⟨w1.heap.size + 1, 0, none⟩) 1 1, .bool true])) ((w1.alloc (.cells cs T)).alloc (.cells (enW x).toArray 75)).drew := by
  subst he
  have hs := hb.size
  refine ⟨some ⟨w1.heap.size + 1, 0, none⟩, 1, rfl, Nat.le_refl _, .inr ⟨w1.heap.size + 1, 0, rfl, by omega, ?_, one_rowE (w1.alloc (.cells cs T)) _ (by simp) x⟩, ?_⟩
  · show w1.heap.size + 1 < ((w1.alloc (.cells cs T)).alloc (.cells (enW x).toArray 75)).heap.size
    simp
  · exact ((hb.alloc hs _).alloc (by simp; omega) _).drew
section
variable {w w' : World} {P : Nat → Prop} {m gN cN gB cB room : Nat} {nds : List Nd} {bs : List Bool}
set_option maxHeartbeats 16000000 in
set_option maxRecDepth 10000 in
theorem rbelow0_any (h : RM w P m gN cN gB cB room nds bs) (r : Int) : Calls Tryz.prog 45 #[.pointer (some ⟨m, 0, none⟩), .int .i64 r, .int .i64 0] w fun e w' => BelP w none e w' := by
  have HG := Lib.hid (rGet_any h r)
  clear h
  generalize getN (stOf nds bs) r = n at *
  generalize hge : getE (stOf nds bs) r = ge at *
  unfold ndV at HG
  by_cases he : ge = 0
  · subst he
    clear hge
    go_enter Tryz.func45, Tryz.ntmps45
    go_wp2_with fail
    refine HG.out.mono ?_; rintro e w1 ⟨A, ca, B, cb, rfl, hA, hB, hb1⟩
    have HB1 := Lib.hid (hb1.alloc hb1.size (.cells #[.int .i64 n.kind, .slice A n.refs.length ca, .slice B n.nums.length cb, .string ⟨n.text.toArray⟩] 110))
    go_wp2_with fail
    go_ret2
    exact ⟨none, 0, rfl, Nat.le_refl _, .inl rfl, HB1.out⟩
  · have d0 : (ge != 0) = true := by simpa using he
    clear hge he
    go_enter Tryz.func45, Tryz.ntmps45
    go_wp2_with fail
    refine HG.out.mono ?_; rintro e w1 ⟨A, ca, B, cb, rfl, hA, hB, hb1⟩
    have HB1 := Lib.hid (hb1.alloc hb1.size (.cells #[.int .i64 n.kind, .slice A n.refs.length ca, .slice B n.nums.length cb, .string ⟨n.text.toArray⟩] 110))
    go_wp2_with fail
    go_ret2
    exact ⟨none, 0, rfl, Nat.le_refl _, .inl rfl, HB1.out⟩
set_option maxHeartbeats 16000000 in
set_option maxRecDepth 10000 in
theorem rbelowS_any (d : Nat) (hd : d ≤ 10) (ih : ∀ {w : World} {P : Nat → Prop} {gN cN gB cB : Nat} {nds : List Nd} {bs : List Bool}, RM w P m gN cN gB cB room nds bs → ∀ r : Int, Calls Tryz.prog 45 #[.pointer (some ⟨m, 0, none⟩), .int .i64 r, .int .i64 (d : Int)] w fun e w' => BelP w (belL (stOf nds bs) d r) e w')
    (h : RM w P m gN cN gB cB room nds bs) (r : Int) : Calls Tryz.prog 45 #[.pointer (some ⟨m, 0, none⟩), .int .i64 r, .int .i64 ((d : Int) + 1)] w fun e w' => BelP w (belL (stOf nds bs) (d + 1) r) e w' := by
  obtain ⟨i0, hi0, hz0, hz1, hz2⟩ := info_parts rent_info
  have HG := Lib.hid (rGet_any h r)
  have HIh := Lib.hid (fun (w' : World) (hb : Below w.heap.size w w') (x : Int) => ih (h.below hb) x)
  have hgE : getE (stOf nds bs) r = if live (stOf nds bs) r = true then 0 else 4 := rfl
  have HDd := Lib.hid (fun e => bel_dead (s := stOf nds bs) (h := r) (d + 1) e)
  have HLv := Lib.hid (fun e => bel_live (s := stOf nds bs) (h := r) d e)
  have HBl := Lib.hid (fun (x : Int) (l : List En) (e : belL (stOf nds bs) d x = some l) => bel_len e)
  clear h ih
  generalize hFn : belL (stOf nds bs) d = f at *
  generalize belL (stOf nds bs) (d + 1) r = RR at *
  generalize getN (stOf nds bs) r = n at *
  clear hFn
  unfold ndV at HG
  have hds : ((d : Int) + 1 == 0) = false := by rw [beq_eq_false_iff_ne]; omega
  cases hlv : live (stOf nds bs) r with
  | false =>
    rw [hlv] at hgE
    rw [show getE (stOf nds bs) r = 4 from hgE] at HG
    have HE := Lib.hid (HDd.out hlv)
    clear hlv hgE HLv HDd
    go_enter Tryz.func45, Tryz.ntmps45
    go_wp2_with fail
    refine HG.out.mono ?_; rintro e w1 ⟨A, ca, B, cb, rfl, hA, hB, hb1⟩
    have HB1 := Lib.hid (hb1.alloc hb1.size (.cells #[.int .i64 n.kind, .slice A n.refs.length ca, .slice B n.nums.length cb, .string ⟨n.text.toArray⟩] 110))
    go_wp2_with fail
    go_ret2
    exact ⟨none, 0, by rw [HE.out]; rfl, by rw [HE.out]; exact Nat.le_refl _, by rw [HE.out]; exact .inl rfl, HB1.out⟩
  | true =>
    rw [hlv] at hgE
    rw [show getE (stOf nds bs) r = 0 from hgE] at HG
    have HL1 := Lib.hid (HLv.out hlv)
    clear hlv hgE HLv HDd
    by_cases h32 : 32 < n.refs.length
    · have HE := Lib.hid (HL1.out.trans (if_pos h32))
      have d32 : decide ((32 : Int) < (n.refs.length : Int)) = true := decide_eq_true (by omega)
      clear h32 HL1
      go_enter Tryz.func45, Tryz.ntmps45
      go_wp2_with fail
      refine HG.out.mono ?_; rintro e w1 ⟨A, ca, B, cb, rfl, hA, hB, hb1⟩
      have HB1 := Lib.hid (hb1.alloc hb1.size (.cells #[.int .i64 n.kind, .slice A n.refs.length ca, .slice B n.nums.length cb, .string ⟨n.text.toArray⟩] 110))
      go_wp2_with fail
      go_ret2
      exact ⟨none, 0, by rw [HE.out]; rfl, by rw [HE.out]; exact Nat.le_refl _, by rw [HE.out]; exact .inl rfl, HB1.out⟩
    · have HL2 := Lib.hid (HL1.out.trans (if_neg h32))
      have d32 : decide ((32 : Int) < (n.refs.length : Int)) = false := decide_eq_false (by omega)
      have h32' : n.refs.length ≤ 32 := by omega
      clear HL1 h32
      by_cases hlf : n.kind = 1 ∧ n.nums.length = 1
      · have HE := Lib.hid (HL2.out.trans (if_pos hlf))
        have dk : (n.kind == 1) = true := by simpa using hlf.1
        have dn : ((n.nums.length : Int) == 1) = true := by rw [hlf.2]; rfl
        obtain ⟨y, hy⟩ : ∃ y, n.nums = [y] := by
          match hn : n.nums, hlf.2 with
          | [y], _ => exact ⟨y, rfl⟩
        have hy0 : n.nums[0]? = some y := by rw [hy]; rfl
        have hyd : n.nums.headD 0 = y := by rw [hy]; rfl
        rw [hyd] at HE
        have hnl : 0 < n.nums.length := by rw [hlf.2]; decide
        have hnI : (0 : Int) < (n.nums.length : Int) := by omega
        have HNl := Lib.hid hlf.2
        clear hlf HL2 hy hyd
        go_enter Tryz.func45, Tryz.ntmps45
        go_wp2_with fail
        refine HG.out.mono ?_; rintro e w1 ⟨A, ca, B, cb, rfl, hA, hB, hb1⟩
        have hbA : Below w1.heap.size w1 (w1.alloc (.cells #[.int .i64 n.kind, .slice A n.refs.length ca, .slice B n.nums.length cb, .string ⟨n.text.toArray⟩] 110)) := (Below.refl _ _).alloc (Nat.le_refl _) _
        obtain ⟨gB1, oB1, rfl, _, _, hcB⟩ := hB.at hnl
        have c0 := keep_cell hbA (hcB 0 y hy0)
        rw [Nat.add_zero] at c0
        have zB := Lib.lt_of_cell c0
        have HB1 := Lib.hid hb1
        have hs1 := hb1.size
        clear hA hB hcB hy0 hb1 hbA
        go_wp2_with fail
        go_region_law (first | fail)
        all_goals
          go_wp2_with fail
          go_ret2
          exact leaf_bel HB1.out HE.out
      · have HE := Lib.hid (HL2.out.trans (if_neg hlf))
        have hnf : (n.kind == 1) = false ∨ (n.kind == 1) = true ∧ ((n.nums.length : Int) == 1) = false := by
          by_cases hk1 : n.kind = 1
          · exact .inr ⟨by simpa using hk1, by rw [beq_eq_false_iff_ne]; intro e; exact hlf ⟨hk1, by omega⟩⟩
          · exact .inl (by simpa using hk1)
        have HNf := Lib.hid hnf
        clear hlf HL2 hnf
        go_enter Tryz.func45, Tryz.ntmps45
        go_wp2_with fail
        refine HG.out.mono ?_; rintro e w1 ⟨A, ca, B, cb, rfl, hA, hB, hb1⟩
        have hblk := heap_alloc_new w1 (.cells #[.int .i64 n.kind, .slice A n.refs.length ca, .slice B n.nums.length cb, .string ⟨n.text.toArray⟩] 110)
        have HBk := Lib.hid hblk
        have hbA : Below w1.heap.size w1 (w1.alloc (.cells #[.int .i64 n.kind, .slice A n.refs.length ca, .slice B n.nums.length cb, .string ⟨n.text.toArray⟩] 110)) := (Below.refl _ _).alloc (Nat.le_refl _) _
        have hzW : (w1.alloc (.cells #[.int .i64 n.kind, .slice A n.refs.length ca, .slice B n.nums.length cb, .string ⟨n.text.toArray⟩] 110)).heap.size = w1.heap.size + 1 := by simp
        have HzW := Lib.hid hzW
        have HBW := Lib.hid (hb1.trans (hbA.mono hb1.size))
        have HA := Lib.hid (hA.below hbA)
        have hs1 := hb1.size
        clear hA hB hbA hzW hblk
        rcases HNf.out with hkf | ⟨hkt, hnf⟩
        all_goals
          go_wp2_with fail
          generalize (w1.alloc (.cells #[.int .i64 n.kind, .slice A n.refs.length ca, .slice B n.nums.length cb, .string ⟨n.text.toArray⟩] 110)) = Wn at *
          go_loopw [10, 11, 12, 13] (fun vo vi _ _ wr => ∃ (i : Nat) (out : List En), i ≤ n.refs.length ∧ vi = .int .i64 (i : Int) ∧ Hid (belR f n.refs [] = belR f (n.refs.drop i) out) ∧ Hid (out.length ≤ 1024) ∧ Hid (OwnR 75 2 enW Wn.heap.size wr vo out) ∧ Below Wn.heap.size Wn wr) (fun _ vi _ _ _ => n.refs.length - (RowKit.intOf vi).toNat)
          case atStart => exact ⟨0, [], Nat.zero_le _, rfl, Lib.hid (by rw [List.drop_zero]), Lib.hid (by simp), Lib.hid (World.ownsRow_nil _ _ _ _), Below.refl _ _⟩
          case round =>
            obtain ⟨i, out, hi, rfl, HS, HLo, HO, hb⟩ := hrel
            have hX : w1.heap.size < Wn.heap.size := by rw [HzW.out]; omega
            have x1 : wr.cell? ⟨w1.heap.size, 1, none⟩ = some (.slice A n.refs.length ca) := by rw [hb.cell hX]; exact Lib.cell_of_heap HBk.out 1
            have hbw : Below w.heap.size w wr := HBW.out.trans (hb.mono HBW.out.size)
            by_cases hlt : i < n.refs.length
            · obtain ⟨q, hq⟩ : ∃ q, n.refs[i]? = some q := ⟨_, List.getElem?_eq_getElem hlt⟩
              obtain ⟨gA, oA, rfl, _, _, hcA⟩ := HA.out.at hlt
              have c0 := keep_cell hb (hcA i q hq)
              have hI : (i : Int) < (n.refs.length : Int) := by omega
              have hJ : (0 : Int) ≤ (i : Int) := by omega
              have HC := Lib.hid (HIh.out wr hbw q)
              have HBn := Lib.hid (HBl.out q)
              have HN := Lib.hid (fun e => HE.out.trans (HS.out.trans (belR_none (out := out) hq e)))
              have HM := Lib.hid (fun l e h => HE.out.trans (HS.out.trans (belR_much (out := out) (l := l) hq e h)))
              have HX := Lib.hid (fun l e h => HS.out.trans (belR_next (out := out) (l := l) hq e h))
              have Hbw := Lib.hid hbw
              clear hq hcA hbw HS
              generalize f q = fq at *
              cases fq with
              | none =>
                have HN2 := Lib.hid (HN.out rfl)
                clear HN HM HX HBn
                go_wp2_with fail
                refine HC.out.mono ?_; rintro e w2 ⟨O2, co2, rfl, hc2, hr2, hb2⟩
                have hb3 := Hbw.out.trans (hb2.mono Hbw.out.size)
                go_wp2_with fail
                go_ret2
                exact ⟨none, 0, by rw [HN2.out]; rfl, by rw [HN2.out]; exact Nat.le_refl _, by rw [HN2.out]; exact .inl rfl, hb3⟩
              | some l2 =>
                have hl2 : l2.length ≤ 1024 := HBn.out l2 rfl
                have HM2 := Lib.hid (HM.out l2 rfl)
                have HX2 := Lib.hid (HX.out l2 rfl)
                obtain ⟨O, co, rfl, hcO, _⟩ := OwnR.shape (f := enW) (fun _ => rfl) HO.out
                have hlo : out.length ≤ 1024 := HLo.out
                clear HN HM HX HBn HLo
                go_wp2_with fail
                refine HC.out.mono ?_; rintro e w2 ⟨O2, co2, rfl, hc2, hr2, hb2⟩
                have hb3 := Hbw.out.trans (hb2.mono Hbw.out.size)
                have HB3 := Lib.hid hb3
                have hbn := hb.trans (hb2.mono hb.size)
                have hbs := hbn.size
                have HO2 := Lib.hid (HO.out.below hb2)
                have y1 := keep_cell hb2 x1
                clear hb3 hb2 HC HO x1 c0 Hbw
                simp only [Option.getD_some, Option.isSome_some]
                by_cases hnil : l2 = []
                · subst hnil
                  have HX3 := Lib.hid (HX2.out (by simpa using hlo))
                  rw [List.append_nil] at HX3
                  have dL : decide ((1024 : Int) < (out.length : Int)) = false := decide_eq_false (by omega)
                  clear HX2 HM2 hr2
                  go_wp2_with (at_builtin; refine of_stop ?_)
                  refine stop_of ?_
                  refine wpList_append_zeroO rfl _ _ 35 rfl 75 i0 Tryz.underlying35 hi0 O out.length co hcO O2 co2 rfl rfl ?_
                  go_wp2_with fail
                  go_roundw
                  case rel => exact ⟨i + 1, out, by omega, by go_num, HX3, Lib.hid hlo, HO2, hbn⟩
                  case measure => simp [RowKit.intOf]; omega
                · have hlp : 0 < l2.length := List.length_pos_iff.2 hnil
                  have hr2 : RowE w2 (fun g => wr.heap.size ≤ g) O2 l2 := hr2
                  obtain ⟨g2, o2, rfl, _, _, hat2⟩ := hr2.at hlp
                  obtain ⟨NN, hNN⟩ : ∃ NN, out.length + l2.length = NN := ⟨_, rfl⟩
                  have hNl : NN ≤ 2048 := by omega
                  have hNa : (out ++ l2).length = NN := by rw [List.length_append]; exact hNN
                  have HNa := Lib.hid hNa
                  have HNN := Lib.hid hNN
                  clear hNa hNN
                  go_wp2_with (at_builtin; refine of_stop ?_)
                  refine stop_of ?_
                  refine wpList_append_rows (f := enW) (n := 2) (E := 75) (nb := 24) (X := out) (base := Wn.heap.size) rfl _ _ rfl rfl HO2.out (L2 := l2) rfl hat2 hlp (N := NN) HNN.out (Z := out ++ l2) rfl Tryz.underlying35 hi0 hz0 hz1 hz2 rfl (by decide) (by decide) (fun _ => rfl) enW_one (by omega) hbs ?_
                  intro g4 k4 w4 ho4 hg4 hat4 hl4
                  have hb4 : Below Wn.heap.size Wn w4 := hbn.grown hg4 hbs (fun k hk => (World.ownsRow.lt HO2.out k hk).1)
                  have hb5 : Below w.heap.size w w4 := HBW.out.trans (hb4.mono HBW.out.size)
                  have HO4 := Lib.hid ho4
                  clear ho4 hg4 hat4 hl4 hat2 hr2
                  by_cases hbig : 1024 < NN
                  · have HM3 := Lib.hid (HM2.out (by rw [HNa.out]; exact hbig))
                    have dL : decide ((1024 : Int) < (NN : Int)) = true := decide_eq_true (by omega)
                    clear HX2 HM2
                    go_wp2_with fail
                    go_ret2
                    exact ⟨none, 0, by rw [HM3.out]; rfl, by rw [HM3.out]; exact Nat.le_refl _, by rw [HM3.out]; exact .inl rfl, hb5⟩
                  · have HX3 := Lib.hid (HX2.out (by rw [HNa.out]; omega))
                    have dL : decide ((1024 : Int) < (NN : Int)) = false := decide_eq_false (by omega)
                    clear HX2 HM2
                    go_wp2_with fail
                    go_roundw
                    case rel => exact ⟨i + 1, out ++ l2, by omega, by go_num, HX3, Lib.hid (by rw [HNa.out]; omega), HO4, hb4⟩
                    case measure => simp [RowKit.intOf]; omega
            · have hii : i = n.refs.length := by omega
              subst hii
              have hs := HS.out
              rw [List.drop_length, belR] at hs
              have HE2 := Lib.hid (HE.out.trans hs)
              obtain ⟨O, co, hv, hc, hr⟩ := own_rowE HO.out
              subst hv
              have HR := Lib.hid hr
              have hsw : w.heap.size ≤ Wn.heap.size := HBW.out.size
              clear hs HS HE hr HO
              go_wp2_with fail
              go_ret2
              exact ⟨O, co, by rw [HE2.out]; rfl, by rw [HE2.out]; exact hc, by rw [HE2.out]; exact HR.out.mono (fun g hg _ => Nat.le_trans hsw hg), hbw⟩
end
end Go.Proofs.YtjgjacihdggimaaGreatDoor
namespace Go.Proofs.YtjgjacihdggimaaGreatDoor
open Go.RowKit
theorem belR_fit {f : Int → Option (List En)} (hf : ∀ r l, f r = some l → ∀ x ∈ l, x.text.length ≤ 5000) : ∀ (refs : List Int) (out l : List En), (∀ x ∈ out, x.text.length ≤ 5000) → belR f refs out = some l → ∀ x ∈ l, x.text.length ≤ 5000
  | [], out, l, h, e => by rw [belR] at e; rw [← Option.some.inj e]; exact h
  | r :: rs, out, l, h, e => by
    rw [belR] at e
    cases h1 : f r with
    | none => rw [h1] at e; cases e
    | some q =>
      rw [h1] at e
      change (if (out ++ q).length > 1024 then none else belR f rs (out ++ q)) = some l at e
      split at e
      · cases e
      · refine belR_fit hf rs _ l (fun x hx => ?_) e
        rcases List.mem_append.1 hx with hx | hx
        · exact h x hx
        · exact hf r q h1 x hx
theorem bel_fit {s : Sh} (hs : FitT s) : ∀ (d : Nat) (h : Int) (l : List En), belL s d h = some l → ∀ x ∈ l, x.text.length ≤ 5000
  | 0, h, l, e => by rw [belL] at e; cases e
  | d + 1, h, l, e => by
    rw [belL] at e
    cases h1 : ndAt s h with
    | none => rw [h1] at e; cases e
    | some n =>
      rw [h1] at e
      change (if n.refs.length > 32 then none else if n.kind = 1 ∧ n.nums.length = 1 then some [(⟨n.nums.headD 0, n.text⟩ : En)] else belR (belL s d) n.refs []) = some l at e
      split at e
      · cases e
      · split at e
        · rw [← Option.some.inj e]
          intro x hx
          rw [List.mem_singleton.1 hx]
          exact (hs h n h1).1.2.2
        · exact belR_fit (bel_fit hs d) _ _ _ (fun x hx => by cases hx) e
section
variable {m room : Nat}
theorem rbelow_any : ∀ (d : Nat), d ≤ 10 → ∀ {w : World} {P : Nat → Prop} {gN cN gB cB : Nat} {nds : List Nd} {bs : List Bool}, RM w P m gN cN gB cB room nds bs → ∀ r : Int, Calls Tryz.prog 45 #[.pointer (some ⟨m, 0, none⟩), .int .i64 r, .int .i64 (d : Int)] w fun e w' => BelP w (belL (stOf nds bs) d r) e w'
  | 0, _, w, P, gN, cN, gB, cB, nds, bs, h, r => by rw [belL]; exact rbelow0_any h r
  | d + 1, hd, w, P, gN, cN, gB, cB, nds, bs, h, r => rbelowS_any d (by omega) (fun h r => rbelow_any d (by omega) h r) h r
end
theorem take_next9 {α : Type} {p : α → Prop} {l : List α} {i : Nat} {q : α} (hq : l[i]? = some q) (h : ∀ x ∈ l.take i, p x) (hp : p q) : ∀ x ∈ l.take (i + 1), p x := fun x hx => by
  rw [List.take_add_one, hq] at hx
  rcases List.mem_append.1 hx with e | e
  · exact h x e
  · obtain rfl : x = q := by simpa using e
    exact hp
section
variable {w w' : World} {P : Nat → Prop} {m gN cN gB cB room : Nat} {nds : List Nd} {bs : List Bool}
set_option maxHeartbeats 16000000 in
set_option maxRecDepth 10000 in
theorem rhasE_any (h : RM w P m gN cN gB cB room nds bs) (hi : Inv room (stOf nds bs)) (hft : FitT (stOf nds bs)) (r : Int) : Calls Tryz.prog 19 #[.pointer (some ⟨m, 0, none⟩), .int .i64 r] w fun e w' => BelP w (hasT (stOf nds bs) r) e w' := by
  by_cases h0 : r = 0
  · have d0 : (r == 0) = true := by simpa using h0
    have HE : Hid (hasT (stOf nds bs) r = some []) := Lib.hid (by rw [h0]; exact has_zero _)
    generalize hasT (stOf nds bs) r = RR at *
    clear h0 h hi hft
    go_enter Tryz.func19, Tryz.ntmps19
    go_wp2_with fail
    go_ret2
    exact ⟨none, 0, by rw [HE.out]; rfl, by rw [HE.out]; exact Nat.le_refl _, by rw [HE.out]; exact .inl rfl, Below.refl _ _⟩
  · have d0 : (r == 0) = false := by simpa using h0
    have HC : Hid (Calls Tryz.prog 45 #[.pointer (some ⟨m, 0, none⟩), .int .i64 r, .int .i64 4] w fun e w' => BelP w (belL (stOf nds bs) 4 r) e w') := Lib.hid (rbelow_any 4 (by decide) h r)
    have HBe := Lib.hid (fun e => has_below hi h0 e)
    have HBa := Lib.hid (fun (L : List En) (e : belL (stOf nds bs) 4 r = some L) (x : En) (hx : x ∈ L) hr => has_bad hi h0 e hx hr)
    have HTw := Lib.hid (fun (L : List En) (e : belL (stOf nds bs) 4 r = some L) hd => has_twice hi h0 e hd)
    have HEm := Lib.hid (fun (L : List En) (e : belL (stOf nds bs) 4 r = some L) hs => has_empty hi h0 e hs)
    have HOt := Lib.hid (fun (L : List En) (e : belL (stOf nds bs) 4 r = some L) hs => has_other hi h0 e hs)
    have HOf := Lib.hid (fun (L : List En) hr hd hne hs => has_of (s := stOf nds bs) (h := r) (L := L) hr hd hne h0 hs)
    have HFt := Lib.hid (fun (L : List En) (e : belL (stOf nds bs) 4 r = some L) => bel_fit hft 4 r L e)
    have HLn := Lib.hid (fun (L : List En) (e : belL (stOf nds bs) 4 r = some L) => bel_len e)
    have HSk := Lib.hid (fun (w' : World) (hb : Below w.heap.size w w') (l : List Nd) (A : Option Addr) (ca : Nat) (Q : Nat → Prop) (hl : RowN w' Q A l) h1 h2 h3 => rseek_any (h.below hb) l A ca hl h1 h2 h3)
    generalize hasT (stOf nds bs) r = RR at *
    generalize belL (stOf nds bs) 4 r = BR at *
    generalize seekD (stOf nds bs) = sk at *
    clear h hi hft h0
    cases BR with
    | none =>
      have HE := Lib.hid (HBe.out rfl)
      clear HBe HBa HTw HEm HOt HOf HFt HLn HSk
      go_enter Tryz.func19, Tryz.ntmps19
      go_wp2_with fail
      refine HC.out.mono ?_; rintro e w1 ⟨O2, co2, rfl, hc2, hr2, hb1⟩
      go_wp2_with fail
      go_ret2
      exact ⟨none, 0, by rw [HE.out]; rfl, by rw [HE.out]; exact Nat.le_refl _, by rw [HE.out]; exact .inl rfl, hb1⟩
    | some L =>
      have HBa2 := Lib.hid (HBa.out L rfl)
      have HTw2 := Lib.hid (HTw.out L rfl)
      have HEm2 := Lib.hid (HEm.out L rfl)
      have HOt2 := Lib.hid (HOt.out L rfl)
      have HOf2 := Lib.hid (HOf.out L)
      have HFt2 := Lib.hid (HFt.out L rfl)
      have hL : L.length ≤ 1024 := HLn.out L rfl
      clear HBe HBa HTw HEm HOt HOf HFt HLn
      go_enter Tryz.func19, Tryz.ntmps19
      go_wp2_with fail
      refine HC.out.mono ?_; rintro e w1 ⟨O2, co2, rfl, hc2, hr2, hb1⟩
      have hr2 : RowE w1 (fun g => w.heap.size ≤ g) O2 L := hr2
      simp only [Option.getD_some, Option.isSome_some]
      have HR2 := Lib.hid hr2
      have HB1 := Lib.hid hb1
      clear hr2 hb1 HC
      go_wp2_with fail
      go_loopw [8, 9, 10] (fun vi _ _ wr => ∃ i : Nat, i ≤ L.length ∧ vi = .int .i64 (i : Int) ∧ Hid (∀ x ∈ L.take i, rightE x = true) ∧ Hid (DisK (L.take i)) ∧ Below w1.heap.size w1 wr) (fun vi _ _ _ => L.length - (RowKit.intOf vi).toNat)
      case atStart => exact ⟨0, Nat.zero_le _, rfl, Lib.hid (by simp), Lib.hid (by rw [List.take_zero]; exact List.Pairwise.nil), Below.refl _ _⟩
      case round =>
        obtain ⟨i, hi, rfl, HRt, HDs, hb⟩ := hrel
        have Hbw := Lib.hid (HB1.out.trans (hb.mono HB1.out.size))
        by_cases hlt : i < L.length
        · obtain ⟨x, hx⟩ : ∃ x, L[i]? = some x := ⟨_, List.getElem?_eq_getElem hlt⟩
          obtain ⟨g, o, rfl, _, hgl, hat⟩ := HR2.out.at hlt
          obtain ⟨q0, q1⟩ := hat.two hx
          have k0 := keep_cell hb q0
          have k1 := keep_cell hb q1
          have hI : (i : Int) < (L.length : Int) := by omega
          have hJ : (0 : Int) ≤ (i : Int) := by omega
          have hm := List.mem_of_getElem? hx
          have HRi := Lib.hid (fun w' => rright_any x w' (Nat.le_trans (HFt2.out x hm) (by decide)))
          have HBd := Lib.hid (fun hr => HBa2.out x hm hr)
          have HRn := Lib.hid (fun hr : rightE x = true => take_next9 hx HRt.out hr)
          have HDn := Lib.hid (fun hn => dis_next hx HDs.out hn)
          have HTn := Lib.hid (fun (k : Nat) (y : En) hk hy e => HTw2.out (dis_not (L := L) (i := i) (k := k) (x := x) (y := y) hk hy hx e))
          have HAt := Lib.hid hat
          have HX0 := Lib.hid q0
          obtain ⟨kx, tx⟩ := x
          clear hat q0 q1 hx hm HRt HDs
          cases hr : rightE ⟨kx, tx⟩ with
          | false =>
            have HE := Lib.hid (HBd.out hr)
            rw [hr] at HRi
            clear hr HBd HRn HDn HTn
            go_wp2_with fail
            refine (HRi.out _).mono ?_; rintro e w2 ⟨rfl, hb2⟩
            have hb3 := Hbw.out.trans (hb2.mono Hbw.out.size)
            go_wp2_with fail
            go_ret2
            exact ⟨none, 0, by rw [HE.out]; rfl, by rw [HE.out]; exact Nat.le_refl _, by rw [HE.out]; exact .inl rfl, hb3⟩
          | true =>
            have HRn2 := Lib.hid (HRn.out hr)
            rw [hr] at HRi
            clear hr HBd HRn
            go_wp2_with fail
            refine (HRi.out _).mono ?_; rintro e w2 ⟨rfl, hb2⟩
            have hb3 := hb.trans (hb2.mono hb.size)
            clear hb2 k0 k1 HRi
            go_wp2_with fail
            go_loopw [10] (fun vk wr2 => ∃ k : Nat, k ≤ i ∧ vk = .int .i64 (k : Int) ∧ Hid (∀ y ∈ L.take k, y.key ≠ kx) ∧ Below w1.heap.size w1 wr2) (fun vk _ => i - (RowKit.intOf vk).toNat)
            case atStart => exact ⟨0, Nat.zero_le _, rfl, Lib.hid (by simp), hb3⟩
            case round =>
              clear hb hb3 Hbw
              obtain ⟨k, hk, rfl, HNk, hb⟩ := hrel
              have Hbw := Lib.hid (HB1.out.trans (hb.mono HB1.out.size))
              by_cases hki : k < i
              · have hkl : k < L.length := by omega
                obtain ⟨y, hy⟩ : ∃ y, L[k]? = some y := ⟨_, List.getElem?_eq_getElem hkl⟩
                obtain ⟨p0, _⟩ := HAt.out.two hy
                have c0 := keep_cell hb p0
                have c1 := keep_cell hb HX0.out
                have hkI : (k : Int) < (i : Int) := by omega
                have hkL : (k : Int) < (L.length : Int) := by omega
                have hkJ : (0 : Int) ≤ (k : Int) := by omega
                have HT1 := Lib.hid (fun e => HTn.out k y hki hy e)
                have HN1 := Lib.hid (fun e => get_next hy e HNk.out)
                obtain ⟨ky, ty⟩ := y
                clear hy p0
                by_cases e : ky = kx
                · have d1 : (ky == kx) = true := by simpa using e
                  have HE := Lib.hid (HT1.out e)
                  clear e HT1 HN1
                  go_wp2_with fail
                  go_region_law (first | fail)
                  all_goals
                    go_wp2_with fail
                    go_ret2
                    exact ⟨none, 0, by rw [HE.out]; rfl, by rw [HE.out]; exact Nat.le_refl _, by rw [HE.out]; exact .inl rfl, by first | exact Hbw.out.drew | exact Hbw.out⟩
                · have d1 : (ky == kx) = false := by simpa using e
                  have HN2 := Lib.hid (HN1.out e)
                  clear e HT1 HN1
                  go_wp2_with fail
                  go_region_law (first | fail)
                  all_goals
                    go_wp2_with fail
                    go_roundw
                    case rel => exact ⟨k + 1, by omega, by go_num, HN2, by first | exact hb.drew | exact hb⟩
                    case measure => simp [RowKit.intOf]; omega
              · have hki' : k = i := by omega
                subst hki'
                have HD2 := Lib.hid (HDn.out HNk.out)
                go_wp2_with fail
                go_roundw
                case rel => exact ⟨k + 1, by omega, by go_num, HRn2, HD2, hb⟩
                case measure => simp [RowKit.intOf]; omega
        · have hii : i = L.length := by omega
          subst hii
          have hr := HRt.out
          have hd := HDs.out
          rw [List.take_length] at hr hd
          have HOk := Lib.hid (sort_ok hr hd)
          have HOf3 := Lib.hid (HOf2.out hr hd)
          have HSo := Lib.hid (rsorted_any L O2 co2 wr (HR2.out.below hb) (by omega))
          clear hr hd HRt HDs HOf2
          generalize sortK L 1024 = S at *
          go_wp2_with fail
          refine HSo.out.mono ?_; rintro e w2 ⟨O3, co3, rfl, hc3, hr3, hb3⟩
          have hb4 := Hbw.out.trans (hb3.mono Hbw.out.size)
          have HB4 := Lib.hid hb4
          have hsl := okL_len HOk.out
          by_cases hne : S = []
          · have HE := Lib.hid (HEm2.out hne)
            have hz : S.length = 0 := by rw [hne]; rfl
            rw [hz]
            clear hne hz HOf3 HEm2 HOt2 hc3 hr3 hb3 HOk
            go_wp2_with fail
            go_ret2
            exact ⟨none, 0, by rw [HE.out]; rfl, by rw [HE.out]; exact Nat.le_refl _, by rw [HE.out]; exact .inl rfl, hb4⟩
          · have hlp := List.length_pos_iff.2 hne
            have dz : ((S.length : Int) == 0) = false := by rw [beq_eq_false_iff_ne]; omega
            have HNo := Lib.hid (rnodes_any S HOk.out.keys (by omega) O3 co3 hc3 w2 _ hr3)
            have HOf4 := Lib.hid (HOf3.out hne)
            have HR3 := Lib.hid hr3
            have HC3 := Lib.hid hc3
            have hsz : w.heap.size ≤ wr.heap.size := Hbw.out.size
            clear hne HOf3 HEm2 hr3 hb3 hc3
            go_wp2_with fail
            refine HNo.out.mono ?_; rintro e w3 ⟨O4, co4, rfl, hr4, hb5⟩
            have hb6 := HB4.out.trans (hb5.mono HB4.out.size)
            have HB6 := Lib.hid hb6
            have HR5 := Lib.hid (HR3.out.below hb5)
            have HSe := Lib.hid (HSk.out w3 hb6 (nodesL S) O4 co4 _ hr4 (nodes_negs S) (by have := nodesL_len HOk.out.keys; omega) (fun n hn => by have := (nodesL_fit HOk.out (by omega) n hn).1.1; omega))
            clear hb5 hb6 hr4 HNo HSk
            generalize sk (nodesL S) = q at *
            generalize nodesL S = ns at *
            go_wp2_with fail
            refine HSe.out.mono ?_; rintro e w4 ⟨rfl, hb7⟩
            have hb8 := HB6.out.trans (hb7.mono HB6.out.size)
            by_cases hq : q = r
            · have dq : (q != r) = false := by simpa using hq
              have HE := Lib.hid (HOf4.out hq)
              have HR7 := Lib.hid (HR5.out.below hb7)
              clear hq HOf4 HOt2 hb7
              go_wp2_with fail
              go_ret2
              exact ⟨O3, co3, by rw [HE.out]; rfl, by rw [HE.out]; exact HC3.out, by rw [HE.out]; exact HR7.out.mono (fun g hg _ => Nat.le_trans hsz hg), hb8⟩
            · have dq : (q != r) = true := by simpa using hq
              have HE := Lib.hid (HOt2.out hq)
              clear hq HOf4 HOt2 hb7
              go_wp2_with fail
              go_ret2
              exact ⟨none, 0, by rw [HE.out]; rfl, by rw [HE.out]; exact Nat.le_refl _, by rw [HE.out]; exact .inl rfl, hb8⟩
end
end Go.Proofs.YtjgjacihdggimaaGreatDoor
namespace Go.Proofs.YtjgjacihdggimaaGreatDoor
open Go.RowKit
theorem okRef_low {s : Sh} {i : Nat} {r : Int} (h : okRef s i r = true) : -(i : Int) ≤ r := by
  unfold okRef at h
  simp only [Bool.or_eq_true, decide_eq_true_eq, Bool.and_eq_true] at h
  rcases h with (h | h) | h
  · omega
  · have := (live_bound h).1; omega
  · exact h.2
end Go.Proofs.YtjgjacihdggimaaGreatDoor
namespace Go.Proofs.YtjgjacihdggimaaGreatDoor
open Go.RowKit
theorem wrong_refs {s : Sh} : ∀ {l : List Nd} {i0 i : Nat} {n : Nd}, wrongF s i0 l = false → l[i]? = some n → n.refs.all (okRef s (i0 + i)) = true
  | [], _, i, n, _, hi => by simp at hi
  | m :: l, i0, 0, n, hw, hi => by
    obtain rfl : m = n := by simpa using hi
    rw [wrongF] at hw
    simp only [Bool.or_eq_false_iff, Bool.not_eq_false'] at hw
    exact hw.1
  | m :: l, i0, i + 1, n, hw, hi => by
    rw [wrongF] at hw
    simp only [Bool.or_eq_false_iff] at hw
    have := wrong_refs hw.2 (show l[i]? = some n by simpa using hi)
    rwa [show i0 + 1 + i = i0 + (i + 1) by omega] at this
section
variable {w w' : World} {P Q : Nat → Prop} {m gN cN gB cB room : Nat} {nds : List Nd} {bs : List Bool}
theorem RM.tight (h : RM w P m gN cN gB cB room nds bs) : RM w (fun g => P g ∧ g < w.heap.size) m gN cN gB cB room nds bs :=
  { h with
    pM := ⟨h.pM, h.lM⟩
    pN := ⟨h.pN, h.lN⟩
    pB := ⟨h.pB, h.lB⟩
    rows := fun i n hi => by
      obtain ⟨B, cb, C, cc, h4, hr, hn⟩ := h.rows i n hi
      exact ⟨B, cb, C, cc, h4, hr.mono fun g hg hl => ⟨⟨hg.1, hl⟩, hg.2⟩, hn.mono fun g hg hl => ⟨⟨hg.1, hl⟩, hg.2⟩⟩ }
theorem RM.cut {nds1 : List Nd} {bs1 : List Bool} (h : RM w P m gN cN gB cB room nds1 bs1) {gW kW : Nat} (hl : bs.length ≤ bs1.length) (h1 : 1 ≤ bs.length) (hW : AtR boV 1 w gW 0 bs) (hF : ∀ j, w.frozen? ⟨gW, j, none⟩ = false) (hP : ¬ P gW) (hlt : gW < w.heap.size) :
    RM ((w.setCell ⟨m, 2, none⟩ (.slice (some ⟨gW, 0, none⟩) bs.length kW)).setCell ⟨m, 1, none⟩ (.slice (some ⟨gN, 0, none⟩) bs.length cN)) (fun g => P g ∨ g = gW) m gN cN gW kW room (nds1.take bs.length) bs := by
  have hlen := h.len
  have hm : m ≠ gW := fun e => hP (e ▸ h.pM)
  have hN : gN ≠ gW := fun e => hP (e ▸ h.pN)
  have hmc := (h.mc.set2 (.slice (some ⟨gW, 0, none⟩) bs.length kW)).set1 (.slice (some ⟨gN, 0, none⟩) bs.length cN)
  have hbut : ButS (fun g => g = m) w ((w.setCell ⟨m, 2, none⟩ (.slice (some ⟨gW, 0, none⟩) bs.length kW)).setCell ⟨m, 1, none⟩ (.slice (some ⟨gN, 0, none⟩) bs.length cN)) := ((ButS.refl (fun g => g = m) w).setCell (p := ⟨m, 2, none⟩) (.inl rfl) _).setCell (p := ⟨m, 1, none⟩) (.inl rfl) _
  have hfr : ∀ p, ((w.setCell ⟨m, 2, none⟩ (.slice (some ⟨gW, 0, none⟩) bs.length kW)).setCell ⟨m, 1, none⟩ (.slice (some ⟨gN, 0, none⟩) bs.length cN)).frozen? p = w.frozen? p := fun p => by rw [World.frozen?_setCell, World.frozen?_setCell]
  have e1 : (nds1.take bs.length).length = bs.length := by rw [List.length_take]; omega
  have hnM : gN ≠ m := h.nMN.symm
  have hkI : ∀ (A : Option Addr) (l : List Int), RowI w (fun g => P g ∧ g ≠ m ∧ g ≠ gN ∧ g ≠ gB) A l → RowI ((w.setCell ⟨m, 2, none⟩ (.slice (some ⟨gW, 0, none⟩) bs.length kW)).setCell ⟨m, 1, none⟩ (.slice (some ⟨gN, 0, none⟩) bs.length cN)) (fun g => (P g ∨ g = gW) ∧ g ≠ m ∧ g ≠ gN ∧ g ≠ gW) A l := fun A l hR =>
    (hR.mono (Q := fun g => (P g ∨ g = gW) ∧ g ≠ m ∧ g ≠ gN ∧ g ≠ gW) fun g hg _ => ⟨.inl hg.1, hg.2.1, hg.2.2.1, fun e => hP (e ▸ hg.1)⟩).kept (hbut.keptQ fun g hg => hg.2.1)
  refine ⟨hmc.c0, by rw [e1]; exact hmc.c1, hmc.c2, hmc.fM, fun j => by rw [hfr]; exact h.fN j, fun j => by rw [hfr]; exact hF j, .inl h.pM, .inl h.pN, .inr rfl, h.nMN, hm, hN, Nat.lt_of_lt_of_le h.lN hbut.size, Nat.lt_of_lt_of_le hlt hbut.size, fun i n hi => ?_, fun i b hi => hbut.cell (by exact hm.symm) (bits_atR hW i b hi), e1, h1, by have := h.cap; omega, h.small, fun n hn => h.wide n (List.mem_of_mem_take hn), by rw [e1]; have := h.room'; omega⟩
  rw [List.getElem?_take] at hi
  split at hi
  · obtain ⟨B, cb, C, cc, ⟨q0, q1, q2, q3⟩, hR, hN'⟩ := h.rows i n hi
    exact ⟨B, cb, C, cc, ⟨hbut.cell hnM q0, hbut.cell hnM q1, hbut.cell hnM q2, hbut.cell hnM q3⟩, hkI _ _ hR, hkI _ _ hN'⟩
  · cases hi
def PutP (w : World) (P : Nat → Prop) (m room : Nat) (nds : List Nd) (bs : List Bool) (l : List Nd) (e : Ending) (w' : World) : Prop :=
  ∃ O co gN' cN' gB' cB' nds' bs' out c, e = .returned (.tuple #[.slice O out.length co, .int .i64 ((c : Nat) : Int)]) ∧ putA room (stOf nds bs) l = (stOf nds' bs', out, c) ∧ RowI w' (fun g => w.heap.size ≤ g) O out ∧ RM w' (fun g => P g ∨ w.heap.size ≤ g) m gN' cN' gB' cB' room nds' bs' ∧ ButS P w w'
def LPr (w : World) (P : Nat → Prop) (gW : Nat) (v : Value) (g : Nat) : Prop := ((P g ∧ g < w.heap.size) ∨ (w.heap.size ≤ g ∧ g ≠ gW)) ∧ ¬ v.ownBlock = some g
structure LoopP (w wr : World) (P : Nat → Prop) (m room : Nat) (nds : List Nd) (bs : List Bool) (gW b : Nat) (out : List Int) (v : Value) (gN1 cN1 gB1 cB1 : Nat) (nds1 : List Nd) (bs1 : List Bool) : Prop where
  rm : RM wr (LPr w P gW v) m gN1 cN1 gB1 cB1 room nds1 bs1
  grew : Grew nds bs nds1 bs1
  but : ButS P w wr
  own : OwnR 3 1 inW b wr v out
  was : AtR boV 1 wr gW 0 bs
  froz : ∀ j, wr.frozen? ⟨gW, j, none⟩ = false
  loW : w.heap.size ≤ gW
  hiW : gW < b
  size : b ≤ wr.heap.size
theorem LPr.old {w : World} {P : Nat → Prop} {gW g : Nat} {v : Value} (h : LPr w P gW v g) (hl : g < w.heap.size) : P g := by
  rcases h.1 with q | q
  · exact q.1
  · omega
theorem LPr.ne {w : World} {P : Nat → Prop} {gW g : Nat} {v : Value} (h : LPr w P gW v g) (hl : w.heap.size ≤ gW) : gW ≠ g := by
  rcases h.1 with q | q
  · have := q.2; omega
  · exact q.2.symm
section
variable {wr w2 w3 : World} {gW b gN1 cN1 gB1 cB1 : Nat} {out : List Int} {v : Value} {nds1 nds' : List Nd} {bs1 bs' : List Bool} {gN' cN' gB' cB' : Nat}
theorem LoopP.one (h : LoopP w wr P m room nds bs gW b out v gN1 cN1 gB1 cB1 nds1 bs1) (hR : RM w2 (fun g => LPr w P gW v g ∨ wr.heap.size ≤ g) m gN' cN' gB' cB' room nds' bs') (hG : Grew nds1 bs1 nds' bs')
    (hB : ButS (fun g => g = m ∨ g = gN1 ∨ g = gB1) wr w2) : LoopP w w2 P m room nds bs gW b out v gN' cN' gB' cB' nds' bs' := by
  have hs := h.size
  have h4 := h.loW
  have h5 := h.hiW
  have hlt : ∀ k, v.ownBlock = some k → b ≤ k ∧ k < wr.heap.size := fun k hk => World.ownsRow.lt h.own k hk
  have hoff : ∀ k, v.ownBlock = some k → ¬ (k = m ∨ k = gN1 ∨ k = gB1) := fun k hk e => by
    rcases e with rfl | rfl | rfl
    · exact h.rm.pM.2 hk
    · exact h.rm.pN.2 hk
    · exact h.rm.pB.2 hk
  have hWoff : ¬ (gW = m ∨ gW = gN1 ∨ gW = gB1) := fun e => by
    rcases e with e | e | e
    · exact h.rm.pM.ne h4 e
    · exact h.rm.pN.ne h4 e
    · exact h.rm.pB.ne h4 e
  refine ⟨hR.mono fun g hg => ?_, h.grew.trans hG, h.but.trans' hB fun g hg e => ?_, OwnR.block h.own fun k hk => hB.block k (hlt k hk).2 (hoff k hk), fun i q hi j u hj => hB.cell (by exact hWoff) (h.was i q hi j u hj), fun j => hB.frozen (by exact hWoff) (by show gW < _; omega) (h.froz j), h4, h5, Nat.le_trans hs hB.size⟩
  · rcases hg with hg | hg
    · exact hg
    · exact ⟨.inr ⟨by omega, by omega⟩, fun e => by have := (hlt g e).2; omega⟩
  · rcases e with rfl | rfl | rfl
    · exact h.rm.pM.old hg
    · exact h.rm.pN.old hg
    · exact h.rm.pB.old hg
theorem LoopP.app {y : Int} {T : TypeId} {g N k : Nat} {L' : List Int} (h : LoopP w wr P m room nds bs gW b out v gN1 cN1 gB1 cB1 nds1 bs1) (hg : (wr.alloc (.cells #[.int .i64 y] T)).grownBy w3 v.ownBlock) (ho : OwnR 3 1 inW b w3 (.slice (some ⟨g, 0, none⟩) N k) L') (hat : v.ownBlock = some g ∨ g = (wr.alloc (.cells #[.int .i64 y] T)).heap.size) :
    LoopP w w3 P m room nds bs gW b L' (.slice (some ⟨g, 0, none⟩) N k) gN1 cN1 gB1 cB1 nds1 bs1 := by
  have hs := h.size
  have h4 := h.loW
  have h5 := h.hiW
  have hlt : ∀ k, v.ownBlock = some k → b ≤ k ∧ k < wr.heap.size := fun k hk => World.ownsRow.lt h.own k hk
  have hgr : wr.heap.size ≤ w3.heap.size := by have := hg.size; simp at this; omega
  have hbl : ∀ k, k < wr.heap.size → some k ≠ v.ownBlock → w3.heap[k]? = wr.heap[k]? := fun k hk hn => (hg.block k (by simp; omega) hn).trans (Below.heap_alloc wr _ k hk)
  have hbut : ButS (fun k => v.ownBlock = some k) wr w3 := ⟨hg.os, hg.tape, hg.output, hgr, fun k hk hn => hbl k hk fun e => hn e.symm⟩
  have hWo : ¬ v.ownBlock = some gW := fun e => by have := (hlt _ e).1; omega
  have hrm := (h.rm.tight.kept (w' := w3) (hbut.keptQ fun g hg => hg.1.2))
  refine ⟨hrm.mono fun g' hg' => ⟨hg'.1.1, fun e => ?_⟩, h.grew, h.but.trans' hbut fun k hk e => ?_, ho, fun i q hi j u hj => hbut.cell (by exact hWo) (h.was i q hi j u hj), fun j => hbut.frozen (by exact hWo) (by show gW < _; omega) (h.froz j), h4, h5, Nat.le_trans hs hgr⟩
  · have e2 := own_of (g := g) (k := g') rfl e
    rcases hat with q | q
    · exact hg'.1.2 (e2 ▸ q)
    · have := hg'.2; simp at q; omega
  · have := (hlt k e).1; omega
end
end
end Go.Proofs.YtjgjacihdggimaaGreatDoor
