/- Texts joined: NfE, NfF, NfO, NdI, NdK, NdJ, NfG. -/
import Derived.Test.YtbjbbpbagnlkmaaDoorMs02
import Derived.Test.YtbjbbpbagnlkmaaDoorShelfN
import Derived.Lib.AtoiErrMem
import Derived.Deep.RegionHeld3
import Derived.Deep.RegionWith
import Derived.Maps.OwnSet
import Derived.Lib.SliceRun
import Derived.Deep.QuietTactic
import Derived.BigQuiet
import Derived.Test.YtbjbbpbagnlkmaaDoorMs01
set_option linter.all false
namespace Go.Proofs.YtbjbbpbagnlkmaaDoor
open Go.RowKit Go.Maps
theorem gTab9 : Tryd.prog.globalNamed "internal/strconv.uint64pow10" = some 0 := by kernel_rfl
def TabE (w : World) : Prop := Lib.TabIs Tryd.prog w "internal/strconv.uint64pow10" .u64 Lib.pow10Tab
theorem u8_info : (Tryd.prog.info? 5).map (fun i => (i.zero, i.size, i.bytes)) = some (some (.int .u8 0), 1, 1) := by kernel_rfl
def byW (b : UInt8) : List Value := [.int .u8 (b.toNat : Int)]
theorem byW_one : ∀ b : UInt8, ∀ u ∈ byW b, u.oneCell' = true := fun q u hu => by
  obtain rfl := List.mem_singleton.1 hu
  rfl
theorem byW_flat : ∀ l : List UInt8, l.flatMap byW = Lib.byteCells l
  | [] => rfl
  | b :: l => by rw [List.flatMap_cons, byW_flat l]; rfl
abbrev OwnB (base : Nat) (w : World) (v : Value) (l : List UInt8) : Prop := OwnR 5 1 byW base w v l
theorem appendInt_any {B : Nat} {w : World} (hE : Lib.TabBelow Tryd.prog B w "internal/strconv.uint64pow10" .u64 Lib.pow10Tab) (hB : B ≤ w.heap.size) (v : Value) (l : List UInt8) (h : OwnB B w v l) (hl : l.length ≤ 1000000) (x : Int) (hx : -9223372036854775808 ≤ x ∧ x ≤ 9223372036854775807) :
    Calls Tryd.prog 64 #[v, .int .i64 x, .int .i64 10] w fun e w' => ∃ v', e = .returned v' ∧ OwnB B w' v' (l ++ Lib.itoa x) ∧ Below B w w' := by
  have h' := h
  unfold OwnB OwnR at h'
  rw [byW_flat] at h'
  refine (Any.strconv_AppendInt_10 Tryd.laysM176 B l.length x hx.1 hx.2 v _ w h' hB (by omega) hE).mono fun e w' ⟨v', he, ho, hb, _⟩ => ⟨v', he, ?_, hb⟩
  unfold OwnB OwnR
  rw [byW_flat, Lib.byteCells_append, List.length_append]
  exact ho
theorem take_len_le {α : Type} (l : List α) (i : Nat) : (l.take i).length ≤ l.length := by rw [List.length_take]; omega
theorem rowT_take {l : List Int} (h : B64s l) (hl : l.length ≤ 200) (i : Nat) : (rowT (l.take i)).length ≤ 4400 :=
  rowT_small (fun x hx => h x (List.mem_of_mem_take hx)) (Nat.le_trans (take_len_le l i) hl)
theorem rowT_next {l : List Int} {i : Nat} {x : Int} (h : l[i]? = some x) : rowT (l.take i) ++ Lib.itoa x ++ [32] = rowT (l.take (i + 1)) := by
  rw [List.take_add_one, h]
  show _ = rowT (l.take i ++ [x])
  rw [rowT_snoc, List.append_assoc]
theorem bytes_zero9 {P : Program} (w : World) (src e : TypeId) (hs : P.underlying src = some (.slice e)) (he : P.underlying e = some (.int .u8)) (p : Option Addr) (c : Nat) :
    ∀ dst, P.underlying dst = some .string → (convert src dst (.slice p 0 c)).run P w = .ok (.string ByteArray.empty) w := by
  intro dst hd
  rw [run_convert_bytes_string w src dst e _ 0 c hs he hd]
  cases p with
  | none => simp [Conv.bytesToString]
  | some a =>
    rw [run_bytesToString w a 0 c [] (by simp [loadCells, loadCellsFrom])]
    rfl
set_option maxHeartbeats 8000000 in
set_option maxRecDepth 10000 in
theorem prow_any (l : List Int) (A : Option Addr) (ca : Nat) (w : World) (P : Nat → Prop) (hA : RowI w P A l) (h64 : B64s l) (hl : l.length ≤ 200) (hE : TabE w) :
    Calls Tryd.prog 51 #[.slice A l.length ca] w fun e w' => e = .returned (.string ⟨(rowT l).toArray⟩) ∧ Below w.heap.size w w' := by
  have HA := Lib.hid hA
  have H6 := Lib.hid h64
  have HE : Hid (Lib.TabBelow Tryd.prog w.heap.size w "internal/strconv.uint64pow10" .u64 Lib.pow10Tab) := Lib.hid (Lib.tabBelow_of_tabIs hE)
  obtain ⟨i0, hi0, hz0, hz1, hz2⟩ := info_parts u8_info
  clear hA h64 hE
  go_enter Tryd.func51, Tryd.ntmps51
  go_wp2_with fail
  go_loopw [3, 5, 8] (fun v _ vi wr => ∃ i : Nat, i ≤ l.length ∧ vi = .int .i64 (i : Int) ∧ Hid (OwnB w.heap.size wr v (rowT (l.take i))) ∧ Hid (Below w.heap.size w wr)) (fun _ _ vi _ => l.length - (RowKit.intOf vi).toNat)
  case atStart => exact ⟨0, Nat.zero_le _, rfl, Lib.hid (World.ownsRow_nil _ _ _ _), Lib.hid (Below.refl _ _)⟩
  case round =>
    obtain ⟨i, hi, rfl, HO, HB⟩ := hrel
    by_cases hlt : i < l.length
    · obtain ⟨g, o, rfl, _, _, hca⟩ := HA.out.at hlt
      obtain ⟨x, hx⟩ : ∃ x, l[i]? = some x := ⟨_, List.getElem?_eq_getElem hlt⟩
      have q0 := keep_cell HB.out (hca i x hx)
      have HX := Lib.hid (H6.out x (List.mem_of_getElem? hx))
      have HN := Lib.hid (rowT_next hx)
      have Hb := Lib.hid (rowT_take H6.out hl i)
      have Hb2 := Lib.hid (rowT_take H6.out hl (i + 1))
      clear hca hx
      go_wp2_with fail
      refine (appendInt_any (HE.out.on HB.out) HB.out.size _ _ HO.out (by have := Hb.out; omega) x HX.out).mono ?_
      rintro e w1 ⟨v1, rfl, ho1, hb1⟩
      have HO1 := Lib.hid ho1
      have HB1 := Lib.hid (HB.out.trans hb1)
      clear ho1 hb1
      go_wp2_with (at_builtin; refine of_stop ?_)
      refine stop_of ?_
      refine wpList_append_rows (f := byW) (n := 1) (E := 5) (nb := 1) (base := w.heap.size) rfl _ _ rfl rfl (OwnR.below HO1.out ((Below.refl _ _).alloc (Nat.le_refl _) _)) (L2 := [(32 : UInt8)]) rfl (one_row w1 32) (by simp) (N := (rowT (l.take (i + 1))).length) (by rw [← HN.out, List.length_append, List.length_append, List.length_append]) (Z := rowT (l.take (i + 1))) HN.out Tryd.underlying53 hi0 hz0 hz1 hz2 rfl (by decide) (by decide) (fun _ => rfl) byW_one (by have := Hb2.out; omega) (by have := HB1.out.size; simp; omega) ?_
      intro g2 k2 w2 ho2 hg2 hat2 hl2
      have HO2 := Lib.hid ho2
      have HB2 : Hid (Below w.heap.size w w2) := Lib.hid ((HB1.out.alloc HB1.out.size _).grown hg2 (by have := HB1.out.size; simp; omega) (fun k hk => (World.ownsRow.lt HO1.out k hk).1))
      clear ho2 hg2 hat2 hl2
      go_wp2_with fail
      go_roundw
      case rel => exact ⟨i + 1, by omega, by go_num, HO2, HB2⟩
      case measure => simp [RowKit.intOf]; omega
    · have HO' : Hid (OwnB w.heap.size wr u3 (rowT l)) := Lib.hid (by have := HO.out; rwa [List.take_of_length_le (by omega)] at this)
      obtain ⟨A2, c2, rfl, _, hc⟩ := OwnR.shape (f := byW) (n := 1) (fun _ => rfl) HO'.out
      have hcv : ∀ W, W = wr → (convert 53 9 (.slice A2 (rowT l).length c2)).run Tryd.prog W = .ok (.string ⟨(rowT l).toArray⟩) W := by
        intro W hW
        subst hW
        by_cases hn : rowT l = []
        · rw [hn]
          exact bytes_zero9 W 53 5 Tryd.underlying53 Tryd.underlying5 A2 c2 9 Tryd.underlying9
        · obtain ⟨g, o, rfl, hat⟩ := hc hn
          refine run_convert_bytes_back W 53 9 5 ⟨g, o, none⟩ c2 (rowT l) Tryd.underlying53 Tryd.underlying5 Tryd.underlying9 fun j hj => ?_
          have := hat j _ (List.getElem?_eq_getElem hj) 0 _ rfl
          rw [Go.WideShapes.add_plain]
          simpa using this
      have hcv' := hcv wr rfl
      have HR : Hid ((⟨(rowT l).toArray⟩ : ByteArray) = ⟨(rowT l).toArray⟩) := Lib.hid rfl
      generalize hT : rowT l = T at *
      clear hcv hc HO HO' HA H6
      go_wp2_with fail
      go_ret
      exact ⟨rfl, HB.out⟩
end Go.Proofs.YtbjbbpbagnlkmaaDoor
namespace Go.Proofs.YtbjbbpbagnlkmaaDoor
open Go.RowKit Go.Maps
theorem TabE.below {w w' : World} (h : TabE w) (hb : Below w.heap.size w w') : TabE w' := Lib.tabBelow_of_tabIs h w' hb
set_option maxHeartbeats 8000000 in
set_option maxRecDepth 10000 in
theorem plook_any {w : World} {K : Nat → Prop} {g : Nat} {n : Nd} {B C : Option Addr} {cb cc : Nat} (h4 : At4 w g 0 n B cb C cc) (hr : RowI w K B n.refs) (hn : RowI w K C n.nums) (hf : FitK n) (hE : TabE w) :
    Calls Tryd.prog 42 #[.pointer (some ⟨g, 0, none⟩)] w fun e w' => e = .returned (lookV n) ∧ Below w.heap.size w w' := by
  obtain ⟨⟨f1, f2, f3⟩, f4, f5, _⟩ := hf
  have zg : g < w.heap.size := Lib.lt_of_cell h4.1
  have hba : Below w.heap.size w (w.alloc (.cells #[.int .i64 0, .string ⟨#[]⟩, .string ⟨#[]⟩, .string ⟨#[]⟩] 72)) := (Below.refl _ _).alloc (Nat.le_refl _) _
  have hX := (MapKept.heap_alloc w (.cells #[.int .i64 0, .string ⟨#[]⟩, .string ⟨#[]⟩, .string ⟨#[]⟩] 72)).1
  have hsz : (w.alloc (.cells #[.int .i64 0, .string ⟨#[]⟩, .string ⟨#[]⟩, .string ⟨#[]⟩] 72)).heap.size = w.heap.size + 1 := by simp
  have q0 := keep_cell hba (show w.cell? ⟨g, 0, none⟩ = some (.int .i64 n.kind) from h4.1)
  have q1 := keep_cell hba (show w.cell? ⟨g, 1, none⟩ = some (.slice B n.refs.length cb) from h4.2.1)
  have q2 := keep_cell hba (show w.cell? ⟨g, 2, none⟩ = some (.slice C n.nums.length cc) from h4.2.2.1)
  have q3 := keep_cell hba (show w.cell? ⟨g, 3, none⟩ = some (.string ⟨n.text.toArray⟩) from h4.2.2.2)
  have hr0 := hr.below hba
  have hn0 := hn.below hba
  have hE0 := hE.below hba
  have HW := Lib.hid hba
  have HZ := Lib.hid hsz
  have HV : Hid (lookV n = .agg #[.int .i64 n.kind, .string ⟨(rowT n.refs).toArray⟩, .string ⟨(rowT n.nums).toArray⟩, .string ⟨n.text.toArray⟩]) := Lib.hid rfl
  have HX := Lib.hid hX
  clear h4 hr hn hE hba hX hsz
  go_enter Tryd.func42, Tryd.ntmps42
  go_upto_region 1 with fail
  generalize w.alloc (.cells #[.int .i64 0, .string ⟨#[]⟩, .string ⟨#[]⟩, .string ⟨#[]⟩] 72) = W0 at *
  have hgx : ¬ g = w.heap.size := by omega
  have HR1 := Lib.hid (fun w' (hb : Below W0.heap.size W0 w') => prow_any n.refs B cb w' K (hr0.below hb) f4 f1 (hE0.below hb))
  have HS := Lib.hid (fun w' (hb : ButS (fun h => h = w.heap.size) W0 w') => (show (w'.cell? ⟨g, 0, none⟩ = some (.int .i64 n.kind) ∧ w'.cell? ⟨g, 1, none⟩ = some (.slice B n.refs.length cb) ∧ w'.cell? ⟨g, 2, none⟩ = some (.slice C n.nums.length cc) ∧ w'.cell? ⟨g, 3, none⟩ = some (.string ⟨n.text.toArray⟩)) from ⟨hb.cell hgx q0, hb.cell hgx q1, hb.cell hgx q2, hb.cell hgx q3⟩))
  have HN := Lib.hid (fun w' (hb : Below W0.heap.size W0 w') => prow_any n.nums C cc w' K (hn0.below hb) f5 f2 (hE0.below hb))
  have hx0 : w.heap.size < W0.heap.size := by rw [HZ.out]; omega
  have hxg : w.heap.size ≠ g := by omega
  generalize rowT n.refs = TR at *
  generalize rowT n.nums = TN at *
  clear q0 q1 q2 q3 hr0 hn0 hE0
  go_region_held3 (fun w' => w'.cell? ⟨g, 0, none⟩ = some (.int .i64 n.kind) ∧ w'.cell? ⟨g, 1, none⟩ = some (.slice B n.refs.length cb) ∧ w'.cell? ⟨g, 2, none⟩ = some (.slice C n.nums.length cc) ∧ w'.cell? ⟨g, 3, none⟩ = some (.string ⟨n.text.toArray⟩))
    (first | with_reducible exact HS.out _ (by with_reducible repeat' (first | exact ButS.refl _ _ | exact hs1 | exact hs2 | exact Or.inl rfl | refine ButS.drew ?_ | refine ButS.setCell ?_ ?_ _)) | fail)
    (first
    | (have hG := HR1; clear HR1; go_at_call 51
       refine (hG.out _ (by with_reducible repeat' (first | exact Below.refl _ _ | refine Below.drew ?_))).mono ?_; rintro e w1 ⟨rfl, hb1'⟩
       have hb1 : Below W0.heap.size W0 w1 := by first | exact hb1' | exact (Below.drew (Below.refl W0.heap.size W0)).trans hb1'
       have hs1 : ButS (fun h => h = w.heap.size) W0 w1 := ButS.of_below hb1
       clear hG hb1')
    | (have hG := HN; clear HN; go_at_call 51
       refine (hG.out _ hb1).mono ?_; rintro e w2 ⟨rfl, hb2'⟩
       have hb2 : Below W0.heap.size W0 w2 := hb1.trans (hb2'.mono hb1.size)
       have y0 : w2.cell? ⟨w.heap.size, 0, none⟩ = some (.int .i64 0) := keep_cell hb2 (Lib.cell_of_heap HX.out 0)
       have y1 : w2.cell? ⟨w.heap.size, 1, none⟩ = some (.string ⟨#[]⟩) := keep_cell hb2 (Lib.cell_of_heap HX.out 1)
       have y2 : w2.cell? ⟨w.heap.size, 2, none⟩ = some (.string ⟨#[]⟩) := keep_cell hb2 (Lib.cell_of_heap HX.out 2)
       have y3 : w2.cell? ⟨w.heap.size, 3, none⟩ = some (.string ⟨#[]⟩) := keep_cell hb2 (Lib.cell_of_heap HX.out 3)
       have z0 : w2.frozen? ⟨w.heap.size, 0, none⟩ = false := keep_frozen hb2 hx0 (by simp [World.frozen?, HX.out])
       have z1 : w2.frozen? ⟨w.heap.size, 1, none⟩ = false := keep_frozen hb2 hx0 (by simp [World.frozen?, HX.out])
       have z2 : w2.frozen? ⟨w.heap.size, 2, none⟩ = false := keep_frozen hb2 hx0 (by simp [World.frozen?, HX.out])
       have z3 : w2.frozen? ⟨w.heap.size, 3, none⟩ = false := keep_frozen hb2 hx0 (by simp [World.frozen?, HX.out])
       have HB2 := Lib.hid (HW.out.trans (hb2.mono HW.out.size))
       have hs2 : ButS (fun h => h = w.heap.size) W0 w2 := ButS.of_below hb2
       clear hG hb2')
    | fail)
  go_wp2_with fail
  exact bodyPost_ret (v := .agg #[.int .i64 n.kind, .string ⟨TR.toArray⟩, .string ⟨TN.toArray⟩, .string ⟨n.text.toArray⟩]) (by simp [results, Tryd.results42, go_sem, y0, y1, y2, y3]) rfl
    ⟨by rw [HV.out], (((HB2.out.setCell (Nat.le_refl _) _).setCell (Nat.le_refl _) _).setCell (Nat.le_refl _) _).setCell (Nat.le_refl _) _⟩
end Go.Proofs.YtbjbbpbagnlkmaaDoor
namespace Go.Proofs.YtbjbbpbagnlkmaaDoor
open Go.RowKit Go.Maps
section
variable {P : Program} {w : World} {ops : Array Oper} {rest : List Oper} {o : Oper} {a : Act} {K : Act → World → Prop} {Q : Exit → Act → World → Prop} {E : Prop}
theorem step_lenm (hgd : o.guard = none) (s : Operand) (t : TypeId) (ho : o.op = .call { callee := .builtin .len, args := #[s], argTypes := #[t] }) {v : Value} (hs : a.eval s = v) {n : Int} (hrun : ∀ ty, (Builtin.len_ #[t] ty #[v]).run P w = .ok (.int .i64 n) w)
    (h : K (a.put o.dst (.int .i64 n)) w) : if Region.wanted o (yielded ops a.tmps) = true then Oper.wp P o a w K Q else E := by
  have hw : Region.wanted o (yielded ops a.tmps) = true := by simp [Region.wanted, hgd]
  rw [if_pos hw]
  unfold Oper.wp execOp
  simp only [ho, Go.resolve, invoke, builtin, Sem.run_bind, Sem.run_pure, Result.andThen_ok, List.map_toArray, List.map_cons, List.map_nil, hs, hrun]
  exact h
theorem wpList_lenm (hgd : o.guard = none) (s : Operand) (t : TypeId) (ho : o.op = .call { callee := .builtin .len, args := #[s], argTypes := #[t] }) {v : Value} (hs : a.eval s = v) {n : Int} (hrun : ∀ ty, (Builtin.len_ #[t] ty #[v]).run P w = .ok (.int .i64 n) w)
    (h : wpList P ops Q rest (a.put o.dst (.int .i64 n)) w) : wpList P ops Q (o :: rest) a w := by
  refine wpList_plain hgd fun K' hK' => ?_
  unfold Oper.wp execOp
  simp only [ho, Go.resolve, invoke, builtin, Sem.run_bind, Sem.run_pure, Result.andThen_ok, List.map_toArray, List.map_cons, List.map_nil, hs, hrun]
  exact hK' _ _ h
theorem step_lookm (hgd : o.guard = none) (m x : Operand) (t : TypeId) (c : Bool) (ho : o.op = .lookup t m x c) {v key : Value} (hm : a.eval m = v) (hx : a.eval x = key) {r : Value} (hrun : (Instr.lookup t v key c).run P w = .ok r w)
    (h : K (a.put o.dst r) w) : if Region.wanted o (yielded ops a.tmps) = true then Oper.wp P o a w K Q else E := by
  have hw : Region.wanted o (yielded ops a.tmps) = true := by simp [Region.wanted, hgd]
  rw [if_pos hw]
  unfold Oper.wp execOp
  simp only [ho, Sem.run_bind, Sem.run_pure, Result.andThen_ok, hm, hx, hrun]
  exact h
theorem step_updm (hgd : o.guard = none) (m x y : Operand) (t : TypeId) (ho : o.op = .mapUpdate t m x y) {v key val : Value} (hm : a.eval m = v) (hx : a.eval x = key) (hy : a.eval y = val) {w' : World} (hrun : (Instr.mapUpdate t v key val).run P w = .ok () w')
    (h : K (a.put o.dst undef) w') : if Region.wanted o (yielded ops a.tmps) = true then Oper.wp P o a w K Q else E := by
  have hw : Region.wanted o (yielded ops a.tmps) = true := by simp [Region.wanted, hgd]
  rw [if_pos hw]
  unfold Oper.wp execOp
  simp only [ho, Sem.run_bind, Sem.run_pure, Result.andThen_ok, hm, hx, hy, hrun]
  exact h
theorem wpList_updm (hgd : o.guard = none) (m x y : Operand) (t : TypeId) (ho : o.op = .mapUpdate t m x y) {v key val : Value} (hm : a.eval m = v) (hx : a.eval x = key) (hy : a.eval y = val) {w' : World} (hrun : (Instr.mapUpdate t v key val).run P w = .ok () w')
    (h : wpList P ops Q rest (a.put o.dst undef) w') : wpList P ops Q (o :: rest) a w := by
  refine wpList_plain hgd fun K' hK' => ?_
  unfold Oper.wp execOp
  simp only [ho, Sem.run_bind, Sem.run_pure, Result.andThen_ok, hm, hx, hy, hrun]
  exact hK' _ _ h
theorem step_delm (hgd : o.guard = none) (m x : Operand) (t k : TypeId) (ho : o.op = .call { callee := .builtin .delete, args := #[m, x], argTypes := #[t, k] }) {v key : Value} (hm : a.eval m = v) (hx : a.eval x = key) {w' : World} (hrun : (Builtin.delete_ #[t, k] o.type #[v, key]).run P w = .ok (.tuple #[]) w')
    (h : K (a.put o.dst (.tuple #[])) w') : if Region.wanted o (yielded ops a.tmps) = true then Oper.wp P o a w K Q else E := by
  have hw : Region.wanted o (yielded ops a.tmps) = true := by simp [Region.wanted, hgd]
  rw [if_pos hw]
  unfold Oper.wp execOp
  simp only [ho, Go.resolve, invoke, builtin, Sem.run_bind, Sem.run_pure, Result.andThen_ok, List.map_toArray, List.map_cons, List.map_nil, hm, hx, hrun]
  exact h
end
end Go.Proofs.YtbjbbpbagnlkmaaDoor
namespace Go.Proofs.YtbjbbpbagnlkmaaDoor
open Go.RowKit
theorem own_of {v : Value} {g k : Nat} (hv : v.ownBlock = some g) (h : v.ownBlock = some k) : k = g := Option.some.inj (h.symm.trans hv)
theorem some_ne {v : Value} {g k : Nat} (hv : v.ownBlock = some g) (h : k ≠ g) : some k ≠ v.ownBlock := fun e => h (own_of hv e.symm)
def boV (b : Bool) : List Value := [.bool b]
theorem bool_info : (Tryd.prog.info? 4).map (fun i => (i.zero, i.size, i.bytes)) = some (some (.bool false), 1, 1) := by kernel_rfl
theorem rnode_info : (Tryd.prog.info? 43).map (fun i => (i.zero, i.size, i.bytes)) = some (some (.agg #[.int .i64 0, .slice none 0 0, .slice none 0 0, .string ⟨#[]⟩]), 4, 72) := by kernel_rfl
theorem boV_one : ∀ q : Bool, ∀ u ∈ boV q, u.oneCell' = true := by
  intro q u hu
  simp only [boV, List.mem_cons, List.not_mem_nil, or_false] at hu
  subst hu; rfl
theorem ndW_one : ∀ q : NdM, ∀ u ∈ ndW q, u.oneCell' = true := by
  intro q u hu
  simp only [ndW, List.mem_cons, List.not_mem_nil, or_false] at hu
  rcases hu with rfl | rfl | rfl | rfl <;> rfl
theorem grown_set (w : World) (p : Addr) (u : Value) : w.grownBy (w.setCell p u) (some p.block) := by
  have hb := (Below.refl 0 w).setCell (p := p) (Nat.zero_le _) u
  exact ⟨hb.os, hb.tape, hb.output, hb.size, fun k _ hk => Below.heap_setCell w p u k fun e => hk (by rw [e])⟩
def nd0 : Nd := ⟨0, [], [], []⟩
def ndM0 : NdM := ⟨nd0, none, 0, none, 0⟩
theorem own_room {E : TypeId} {n base N cap g : Nat} {α : Type} {f : α → List Value} {w : World} {L : List α} (h : OwnR E n f base w (.slice (some ⟨g, 0, none⟩) N cap) L) : N ≤ cap := by
  rcases h.2 with ⟨e, _⟩ | ⟨g', cap', cur, hv, _, hh, hc, _, _, ht⟩
  · cases e
  · simp at hv
    obtain ⟨rfl, rfl, rfl⟩ := hv
    exact hc
section
variable {w w' : World} {P : Nat → Prop} {m gN cN gB cB room : Nat} {nds : List Nd} {bs : List Bool}
theorem atR_bits {g : Nat} (h : ∀ (i : Nat) (b : Bool), bs[i]? = some b → w.cell? ⟨g, i, none⟩ = some (.bool b)) : AtR boV 1 w g 0 bs := fun i b hi j u hj => by
  cases j with
  | succ j => simp [boV] at hj
  | zero =>
    obtain rfl : Value.bool b = u := by simpa [boV] using hj
    have := h i b hi
    rwa [Nat.zero_add, Nat.mul_one, Nat.add_zero]
theorem bits_atR {g : Nat} (h : AtR boV 1 w g 0 bs) : ∀ (i : Nat) (b : Bool), bs[i]? = some b → w.cell? ⟨g, i, none⟩ = some (.bool b) := fun i b hi => by
  have := h i b hi 0 _ rfl
  rwa [Nat.zero_add, Nat.mul_one, Nat.add_zero] at this
theorem atR_rows {g : Nat} {L : List NdM} (h : ∀ (i : Nat) (q : NdM), L[i]? = some q → At4 w g (i * 4) q.n q.A q.ca q.B q.cb) : AtR ndW 4 w g 0 L := fun i q hi j u hj => by
  obtain ⟨h0, h1, h2, h3⟩ := h i q hi
  rw [Nat.zero_add]
  match j with
  | 0 => obtain rfl : _ = u := by simpa [ndW] using hj
         exact h0
  | 1 => obtain rfl : _ = u := by simpa [ndW] using hj
         exact h1
  | 2 => obtain rfl : _ = u := by simpa [ndW] using hj
         exact h2
  | 3 => obtain rfl : _ = u := by simpa [ndW] using hj
         exact h3
  | j + 4 => simp [ndW] at hj
theorem rows_atR {g : Nat} {L : List NdM} (h : AtR ndW 4 w g 0 L) : ∀ (i : Nat) (q : NdM), L[i]? = some q → At4 w g (i * 4) q.n q.A q.ca q.B q.cb := fun i q hi => by
  have h0 := h i q hi 0 _ rfl
  have h1 := h i q hi 1 _ rfl
  have h2 := h i q hi 2 _ rfl
  have h3 := h i q hi 3 _ rfl
  rw [Nat.zero_add] at h0 h1 h2 h3
  exact ⟨h0, h1, h2, h3⟩
theorem RM.mc (h : RM w P m gN cN gB cB room nds bs) : MC w m room (.slice (some ⟨gN, 0, none⟩) nds.length cN) (.slice (some ⟨gB, 0, none⟩) bs.length cB) := ⟨h.c0, h.c1, h.c2, h.fM⟩
theorem full_at {i : Nat} (hno : ∀ j : Nat, (stOf nds bs)[j]? ≠ some none) (hl : nds.length = bs.length) (hi : i + 1 < bs.length) : bs[i + 1]? = some true := by
  have h1 := List.getElem?_eq_getElem (l := bs) hi
  have h2 := List.getElem?_eq_getElem (l := nds) (i := i + 1) (by omega)
  rw [h1]
  cases hb : bs[i + 1] with
  | true => rfl
  | false => exact absurd (st_at i h2 (by rw [h1, hb])) (hno i)
set_option maxHeartbeats 8000000 in
set_option maxRecDepth 10000 in
theorem rfree_grow (h : RM w P m gN cN gB cB room nds bs) (hno : ∀ j : Nat, (stOf nds bs)[j]? ≠ some none) (hr : bs.length ≤ room) :
    Calls Tryd.prog 47 #[.pointer (some ⟨m, 0, none⟩)] w fun e w' => ∃ gN' cN' gB' cB', e = .returned (.int .i64 (bs.length : Int)) ∧ RM w' (fun g => P g ∨ w.heap.size ≤ g) m gN' cN' gB' cB' room (nds ++ [nd0]) (bs ++ [false]) ∧ ButS (fun g => g = m) w w' ∧ w.heap.size ≤ gN' ∧ w.heap.size ≤ gB' := by
  obtain ⟨i0, hi0, hz0, hz1, hz2⟩ := info_parts bool_info
  obtain ⟨i1, hi1, hy0, hy1, hy2⟩ := info_parts rnode_info
  have HR := Lib.hid h
  have hcap := h.cap
  have hsm := h.small
  have hone := h.one
  have hlen := Lib.hid h.len
  have HF := Lib.hid (fun i hi => full_at (i := i) hno h.len hi)
  clear h hno
  go_enter Tryd.func47, Tryd.ntmps47
  go_wp2_with fail
  go_loopw [3] (fun vi wr => ∃ i : Nat, i + 1 ≤ bs.length ∧ vi = .int .i64 ((i : Int) + 1) ∧ wr = w) (fun vi _ => bs.length - (RowKit.intOf vi).toNat)
  case atStart => exact ⟨0, by omega, rfl, rfl⟩
  case round =>
    obtain ⟨i, hi, rfl, rfl⟩ := hrel
    have c0 := HR.out.c0
    have c1 := HR.out.c1
    have c2 := HR.out.c2
    by_cases hlt : i + 1 < bs.length
    · have q0 := HR.out.bits _ _ (HF.out i hlt)
      go_wp2_with fail
      go_roundw
      case rel => exact ⟨i + 1, by omega, by go_num, trivial⟩
      case measure => simp [RowKit.intOf]; omega
    · have hd : decide (room < bs.length) = false := decide_eq_false (by omega)
      go_wp2_with fail
      go_quiet (fail)
      have hD : Below wr.heap.size wr (wr.drewN nq) := below_drewN (Below.refl _ _) nq
      have HR1 := Lib.hid (HR.out.below hD)
      have HT1 : Hid (ButS (fun g => g = m) wr (wr.drewN nq)) := Lib.hid (ButS.of_below hD)
      have zs : (wr.drewN nq).heap.size = wr.heap.size := Nat.le_antisymm (by simp) hD.size
      have HZ := Lib.hid zs
      clear c0 c1 c2 hD zs
      generalize wr.drewN nq = W1 at *
      have c1 := HR1.out.c1
      have c2 := HR1.out.c2
      have zm := HR1.out.lM
      have HB1 := Lib.hid (atR_bits HR1.out.bits)
      obtain ⟨L, hLn, hLa, hLr⟩ := rows_list HR1.out.rows
      have HL1 := Lib.hid (And.intro hLn (And.intro (atR_rows hLa) hLr))
      have hLl : L.length = nds.length := by rw [← hLn, List.length_map]
      have HLl := Lib.hid hLl
      clear hLn hLa hLr hLl HR
      have hB : Below W1.heap.size W1 (W1.alloc (.cells #[] 4)) := (Below.refl _ _).alloc (Nat.le_refl _) _
      have HBB := Lib.hid hB
      clear hB
      go_wp2_with (at_builtin; refine of_stop ?_)
      refine stop_of ?_
      refine wpList_append_rows (f := boV) (n := 1) (E := 4) (nb := 1) rfl _ _ rfl rfl (own_lit0 W1 W1.heap.size (Nat.le_refl _)) rfl (fun i b hi j u hj => keep_cell HBB.out (HB1.out i b hi j u hj)) (by omega) (N := bs.length) (by simp) (Z := bs) rfl Tryd.underlying61 hi0 hz0 hz1 hz2 rfl (by decide) (by decide) (fun _ => rfl) boV_one (by omega) (by simp) ?_
      intro g1 k1 w2 ho2 hg2 hat2 hl2
      have ho2 := Lib.hid ho2
      have hz2' : W1.heap.size ≤ g1 := by rcases hat2 with e | e; exact Nat.le_of_eq (own_of (g := W1.heap.size) rfl e).symm; simp at e; omega
      have HM2 := Lib.hid ((HR1.out.mc.alloc (.cells #[] 4)).grown hg2 (some_ne (g := W1.heap.size) rfl (by omega)))
      have HT2 := Lib.hid ((HT1.out.alloc (.cells #[] 4)).grown hg2 (fun k hk => .inr (by have := own_of (g := W1.heap.size) rfl hk; have := HZ.out; omega)))
      have HG2 : Hid (Below W1.heap.size W1 w2) := Lib.hid (HBB.out.grown hg2 (by simp) (fun k hk => by have := own_of (g := W1.heap.size) rfl hk; omega))
      clear hg2 hat2 c1 c2
      have zg2 : W1.heap.size ≤ w2.heap.size := HG2.out.size
      go_wp2_with (at_builtin; refine of_stop ?_)
      refine stop_of ?_
      refine wpList_append_rows (f := boV) (n := 1) (E := 4) (nb := 1) rfl _ _ rfl rfl (OwnR.below ho2.out ((Below.refl _ _).alloc (Nat.le_refl _) _)) (L2 := [false]) rfl (one_row w2 false) (by decide) (N := bs.length + 1) rfl (Z := bs ++ [false]) rfl Tryd.underlying61 hi0 hz0 hz1 hz2 rfl (by decide) (by decide) (fun _ => rfl) boV_one (by omega) (by simp; omega) ?_
      intro g3 k3 w3 ho3 hg3 hat3 hl3
      have ho3 := Lib.hid ho3
      have hz3 : W1.heap.size ≤ g3 := by rcases hat3 with e | e; exact (by have := own_of (g := g1) rfl e; omega); simp at e; omega
      have HM3 := Lib.hid ((HM2.out.alloc (.cells #[.bool false] 4)).grown hg3 (some_ne (g := g1) rfl (by omega)))
      have HT3 := Lib.hid ((HT2.out.alloc (.cells #[.bool false] 4)).grown hg3 (fun k hk => .inr (by have := own_of (g := g1) rfl hk; have := HZ.out; omega)))
      have HG3 : Hid (Below W1.heap.size W1 w3) := Lib.hid ((HG2.out.alloc zg2 (.cells #[.bool false] 4)).grown hg3 (by simp; omega) (fun k hk => by have := own_of (g := g1) rfl hk; omega))
      have zg3 : W1.heap.size ≤ w3.heap.size := HG3.out.size
      clear hg3 hat3
      have d1 := HM3.out.c1
      have d2 := HM3.out.c2
      have dF := HM3.out.fM 2
      have zm3 := HM3.out.lt
      go_wp2_with (at_builtin; refine of_stop ?_)
      have HMs := Lib.hid (HM3.out.set2 (.slice (some ⟨g3, 0, none⟩) (bs.length + 1) k3))
      have HTs : Hid (ButS (fun g => g = m) wr (w3.setCell ⟨m, 2, none⟩ (.slice (some ⟨g3, 0, none⟩) (bs.length + 1) k3))) := Lib.hid (HT3.out.setCell (.inl rfl) _)
      have HWs : Hid (ButS (fun g => g = m) W1 (w3.setCell ⟨m, 2, none⟩ (.slice (some ⟨g3, 0, none⟩) (bs.length + 1) k3))) := Lib.hid ((ButS.of_below (P := fun g => g = m) HG3.out).setCell (p := ⟨m, 2, none⟩) (.inl rfl) _)
      have HOs : Hid (OwnR 4 1 boV W1.heap.size (w3.setCell ⟨m, 2, none⟩ (.slice (some ⟨g3, 0, none⟩) (bs.length + 1) k3)) (.slice (some ⟨g3, 0, none⟩) (bs.length + 1) k3) (bs ++ [false])) := Lib.hid (World.ownsRow.kept ho3.out (grown_set _ _ _) (.inr (fun e => absurd (own_of (g := g3) (k := m) rfl e) (by omega))))
      have zg4 := HWs.out.size
      have hW4 : (w3.setCell ⟨m, 2, none⟩ (.slice (some ⟨g3, 0, none⟩) (bs.length + 1) k3)).heap.size = w3.heap.size := by simp
      clear d1 d2 dF HM3 HT3 HG3 ho3 HM2 HT2 HG2 ho2
      generalize w3.setCell ⟨m, 2, none⟩ (.slice (some ⟨g3, 0, none⟩) (bs.length + 1) k3) = W4 at *
      rw [← hW4]
      clear hW4
      have zg3W : g3 < W4.heap.size := by have := (World.ownsRow.lt HOs.out g3 rfl).2; exact this
      refine stop_of ?_
      refine wpList_append_rows (f := ndW) (n := 4) (E := 43) (nb := 72) (X := ([] : List NdM)) (base := W4.heap.size) rfl _ _ rfl rfl (own_lit0 W4 W4.heap.size (Nat.le_refl _)) (L2 := L) (by rw [HLl.out]; rfl) (fun i q hi j u hj => (HWs.out.alloc _).cell (fun e => absurd e HR1.out.nMN.symm) (HL1.out.2.1 i q hi j u hj)) (by rw [HLl.out, hlen.out]; omega) (N := nds.length) (by rw [HLl.out]; simp) (Z := L) rfl Tryd.underlying54 hi1 hy0 hy1 hy2 rfl (by decide) (by decide) (fun _ => rfl) ndW_one (by rw [hlen.out]; omega) (by simp) ?_
      intro g5 k5 w5 ho5 hg5 hat5 hl5
      have ho5 := Lib.hid ho5
      have hz5 : W4.heap.size ≤ g5 := by rcases hat5 with e | e; exact Nat.le_of_eq (own_of (g := W4.heap.size) rfl e).symm; simp at e; omega
      have zm4 := HMs.out.lt
      have HM5 := Lib.hid ((HMs.out.alloc (.cells #[] 43)).grown hg5 (some_ne (g := W4.heap.size) rfl (by omega)))
      have HG5 : Hid (Below W4.heap.size W4 w5) := Lib.hid (((Below.refl _ _).alloc (Nat.le_refl _) (.cells #[] 43)).grown hg5 (by simp) (fun k hk => by have := own_of (g := W4.heap.size) rfl hk; omega))
      have zg5 := HG5.out.size
      clear hg5 hat5
      go_wp2_with (at_builtin; refine of_stop ?_)
      refine stop_of ?_
      refine wpList_append_rows (f := ndW) (n := 4) (E := 43) (nb := 72) rfl _ _ rfl rfl (OwnR.below ho5.out ((Below.refl _ _).alloc (Nat.le_refl _) _)) (L2 := [ndM0]) rfl (one_row w5 ndM0) (by decide) (N := nds.length + 1) (by rw [HLl.out]; rfl) (Z := L ++ [ndM0]) rfl Tryd.underlying54 hi1 hy0 hy1 hy2 rfl (by decide) (by decide) (fun _ => rfl) ndW_one (by rw [hlen.out]; omega) (by simp; omega) ?_
      intro g6 k6 w6 ho6 hg6 hat6 hl6
      have ho6 := Lib.hid ho6
      have hz6 : W4.heap.size ≤ g6 := by rcases hat6 with e | e; exact (by have := own_of (g := g5) rfl e; omega); simp at e; omega
      have HM6 := Lib.hid ((HM5.out.alloc (.cells (ndW ndM0).toArray 43)).grown hg6 (some_ne (g := g5) rfl (by omega)))
      have HG6 : Hid (Below W4.heap.size W4 w6) := Lib.hid ((HG5.out.alloc zg5 (.cells (ndW ndM0).toArray 43)).grown hg6 (by simp; omega) (fun k hk => by have := own_of (g := g5) rfl hk; omega))
      clear hg6 hat6
      have d1 := HM6.out.c1
      have d2 := HM6.out.c2
      have dF := HM6.out.fM 1
      have zm6 := HM6.out.lt
      go_wp2_with fail
      go_ret
      have hk3 : Below W4.heap.size W4 w6 := HG6.out
      refine ⟨g6, k6, g3, k3, rfl, ?_, (HTs.out.trans (ButS.of_below hk3)).setCell (.inl rfl) _, by have := HZ.out; omega, by have := HZ.out; omega⟩
      have hmc := HM6.out.set1 (.slice (some ⟨g6, 0, none⟩) (nds.length + 1) k6)
      have hW7 : ButS (fun g => g = m) W1 (w6.setCell ⟨m, 1, none⟩ (.slice (some ⟨g6, 0, none⟩) (nds.length + 1) k6)) := (HWs.out.trans (ButS.of_below hk3)).setCell (.inl rfl) _
      have hz := HZ.out
      have hlN := HR1.out.lN
      have hob : OwnR 4 1 boV W1.heap.size (w6.setCell ⟨m, 1, none⟩ (.slice (some ⟨g6, 0, none⟩) (nds.length + 1) k6)) (.slice (some ⟨g3, 0, none⟩) (bs.length + 1) k3) (bs ++ [false]) := World.ownsRow.kept (OwnR.below HOs.out hk3) (grown_set _ _ _) (.inr (fun e => absurd (own_of (g := g3) (k := m) rfl e) (by omega)))
      have hon : OwnR 43 4 ndW W4.heap.size (w6.setCell ⟨m, 1, none⟩ (.slice (some ⟨g6, 0, none⟩) (nds.length + 1) k6)) (.slice (some ⟨g6, 0, none⟩) (nds.length + 1) k6) (L ++ [ndM0]) := World.ownsRow.kept ho6.out (grown_set _ _ _) (.inr (fun e => absurd (own_of (g := g6) (k := m) rfl e) (by omega)))
      have hLr : ∀ q ∈ L ++ [ndM0], RowI (w6.setCell ⟨m, 1, none⟩ (.slice (some ⟨g6, 0, none⟩) (nds.length + 1) k6)) (fun g => (P g ∨ wr.heap.size ≤ g) ∧ g ≠ m ∧ g ≠ g6 ∧ g ≠ g3) q.A q.n.refs ∧ RowI (w6.setCell ⟨m, 1, none⟩ (.slice (some ⟨g6, 0, none⟩) (nds.length + 1) k6)) (fun g => (P g ∨ wr.heap.size ≤ g) ∧ g ≠ m ∧ g ≠ g6 ∧ g ≠ g3) q.B q.n.nums := by
        intro q hq
        rcases List.mem_append.1 hq with hq | hq
        · obtain ⟨r1, r2⟩ := HL1.out.2.2 q hq
          have hmo : ∀ g, (P g ∧ g ≠ m ∧ g ≠ gN ∧ g ≠ gB) → g < W1.heap.size → (P g ∨ wr.heap.size ≤ g) ∧ g ≠ m ∧ g ≠ g6 ∧ g ≠ g3 := fun g hg hl => ⟨.inl hg.1, hg.2.1, by omega, by omega⟩
          have hkq : Kept W1 (w6.setCell ⟨m, 1, none⟩ (.slice (some ⟨g6, 0, none⟩) (nds.length + 1) k6)) (fun g => (P g ∨ wr.heap.size ≤ g) ∧ g ≠ m ∧ g ≠ g6 ∧ g ≠ g3) := hW7.keptQ fun g hg => hg.2.1
          exact ⟨(r1.mono hmo).kept hkq, (r2.mono hmo).kept hkq⟩
        · obtain rfl : q = ndM0 := by simpa using hq
          exact ⟨.inl rfl, .inl rfl⟩
      have e1 : (nds ++ [nd0]).length = nds.length + 1 := by simp
      have e2 : (bs ++ [false]).length = bs.length + 1 := by simp
      have eL : (L ++ [ndM0]).map NdM.n = nds ++ [nd0] := by rw [List.map_append, HL1.out.1]; rfl
      have h7 := (World.ownsRow.lt hon g6 rfl).2
      have h8 := (World.ownsRow.lt hob g3 rfl).2
      exact ⟨hmc.c0, by rw [e1]; exact hmc.c1, by rw [e2]; exact hmc.c2, hmc.fM, World.ownsRow.frozenAt (by have := hon; unfold OwnR at this; rwa [show (L ++ [ndM0]).length = nds.length + 1 by rw [List.length_append, HLl.out]; rfl] at this), World.ownsRow.frozenAt (by have := hob; unfold OwnR at this; rwa [e2] at this), .inl HR1.out.pM, .inr (by omega), .inr (by omega), by omega, by omega, by omega, h7, h8,
        by rw [← eL]; exact list_rows (rows_atR (OwnR.at (fun _ => rfl) hon (by rw [List.length_append, HLl.out]; rfl))) hLr, bits_atR (OwnR.at (fun _ => rfl) hob e2.symm), by rw [e1, e2, hlen.out], by omega, by omega, hsm,
        fun n hn => by
          rcases List.mem_append.1 hn with hn | hn
          · exact HR1.out.wide n hn
          · obtain rfl : n = nd0 := by simpa using hn
            exact ⟨by decide, by decide⟩,
        by have hc := own_room hon; rw [e1]; exact hc⟩
set_option maxHeartbeats 4000000 in
set_option maxRecDepth 10000 in
theorem rfree_found (h : RM w P m gN cN gB cB room nds bs) {k : Nat} (hk : (stOf nds bs)[k]? = some none) (hno : ∀ j : Nat, j < k → (stOf nds bs)[j]? ≠ some none) :
    Calls Tryd.prog 47 #[.pointer (some ⟨m, 0, none⟩)] w fun e w' => e = .returned (.int .i64 ((k : Int) + 1)) ∧ w' = w := by
  have HR := Lib.hid h
  have hcap := h.cap
  have hsm := h.small
  have hkl : k + 1 < bs.length := by have := (List.getElem?_eq_some_iff.1 hk).1; rw [st_len h.len] at this; omega
  have hkf : bs[k + 1]? = some false := by
    have h1 := List.getElem?_eq_getElem (l := bs) hkl
    have h2 := List.getElem?_eq_getElem (l := nds) (i := k + 1) (by have := h.len; omega)
    rw [h1]
    cases hb : bs[k + 1] with
    | false => rfl
    | true => have := st_at k h2 (by rw [h1, hb]); rw [hk] at this; cases this
  have HF : Hid (∀ i, i < k → bs[i + 1]? = some true) := Lib.hid fun i hi => by
    have h1 := List.getElem?_eq_getElem (l := bs) (i := i + 1) (by omega)
    have h2 := List.getElem?_eq_getElem (l := nds) (i := i + 1) (by have := h.len; omega)
    rw [h1]
    cases hb : bs[i + 1] with
    | true => rfl
    | false => exact absurd (st_at i h2 (by rw [h1, hb])) (hno i hi)
  clear h hno hk
  go_enter Tryd.func47, Tryd.ntmps47
  go_wp2_with fail
  go_loopw [3] (fun vi wr => ∃ i : Nat, i ≤ k ∧ vi = .int .i64 ((i : Int) + 1) ∧ wr = w) (fun vi _ => bs.length - (RowKit.intOf vi).toNat)
  case atStart => exact ⟨0, by omega, rfl, rfl⟩
  case round =>
    obtain ⟨i, hi, rfl, rfl⟩ := hrel
    have c2 := HR.out.c2
    have hlt : i + 1 < bs.length := by omega
    by_cases hik : i < k
    · have q0 := HR.out.bits _ _ (HF.out i hik)
      clear hkf
      go_wp2_with fail
      go_roundw
      case rel => exact ⟨i + 1, by omega, by go_num, trivial⟩
      case measure => simp [RowKit.intOf]; omega
    · obtain rfl : i = k := by omega
      have q0 := HR.out.bits _ _ hkf
      clear hkf
      go_wp2_with fail
      go_ret
      exact ⟨rfl, rfl⟩
set_option maxHeartbeats 4000000 in
set_option maxRecDepth 10000 in
theorem rfree_full (h : RM w P m gN cN gB cB room nds bs) (hno : ∀ j : Nat, (stOf nds bs)[j]? ≠ some none) (hr : room < bs.length) :
    Calls Tryd.prog 47 #[.pointer (some ⟨m, 0, none⟩)] w fun e w' => e = .returned (.int .i64 0) ∧ Below w.heap.size w w' := by
  have HR := Lib.hid h
  have hcap := h.cap
  have hsm := h.small
  have hone := h.one
  have HF := Lib.hid (fun i hi => full_at (i := i) hno h.len hi)
  clear h hno
  go_enter Tryd.func47, Tryd.ntmps47
  go_wp2_with fail
  go_loopw [3] (fun vi wr => ∃ i : Nat, i + 1 ≤ bs.length ∧ vi = .int .i64 ((i : Int) + 1) ∧ wr = w) (fun vi _ => bs.length - (RowKit.intOf vi).toNat)
  case atStart => exact ⟨0, by omega, rfl, rfl⟩
  case round =>
    obtain ⟨i, hi, rfl, rfl⟩ := hrel
    have c0 := HR.out.c0
    have c2 := HR.out.c2
    by_cases hlt : i + 1 < bs.length
    · have q0 := HR.out.bits _ _ (HF.out i hlt)
      go_wp2_with fail
      go_roundw
      case rel => exact ⟨i + 1, by omega, by go_num, trivial⟩
      case measure => simp [RowKit.intOf]; omega
    · have hd : decide (room < bs.length) = true := decide_eq_true (by omega)
      go_wp2_with fail
      go_quiet (fail)
      go_wp2_with fail
      go_ret
      exact ⟨rfl, by first | exact Below.refl _ _ | exact below_drewN (Below.refl _ _) _⟩
end
end Go.Proofs.YtbjbbpbagnlkmaaDoor
namespace Go.Proofs.YtbjbbpbagnlkmaaDoor
open Go.RowKit
def set4 (w : World) (g o : Nat) (a b c d : Value) : World := (((w.setCell ⟨g, o, none⟩ a).setCell ⟨g, o + 1, none⟩ b).setCell ⟨g, o + 2, none⟩ c).setCell ⟨g, o + 3, none⟩ d
section
variable {w w' : World} {g o : Nat} {a b c d : Value}
theorem set4_far {p : Addr} (h : ∀ j, j < 4 → p ≠ ⟨g, o + j, none⟩) : (set4 w g o a b c d).cell? p = w.cell? p := by
  unfold set4
  rw [World.cell?_setCell_other _ _ _ _ (h 3 (by decide)).symm, World.cell?_setCell_other _ _ _ _ (h 2 (by decide)).symm, World.cell?_setCell_other _ _ _ _ (h 1 (by decide)).symm, World.cell?_setCell_other _ _ _ _ (show (⟨g, o, none⟩ : Addr) ≠ p from (h 0 (by decide)).symm)]
theorem set4_frozen (p : Addr) : (set4 w g o a b c d).frozen? p = w.frozen? p := by
  unfold set4
  rw [World.frozen?_setCell, World.frozen?_setCell, World.frozen?_setCell, World.frozen?_setCell]
theorem set4_size : (set4 w g o a b c d).heap.size = w.heap.size := by unfold set4; simp
theorem set4_near {u0 u1 u2 u3 : Value} (h0 : w.cell? ⟨g, o, none⟩ = some u0) (h1 : w.cell? ⟨g, o + 1, none⟩ = some u1) (h2 : w.cell? ⟨g, o + 2, none⟩ = some u2) (h3 : w.cell? ⟨g, o + 3, none⟩ = some u3) :
    (set4 w g o a b c d).cell? ⟨g, o, none⟩ = some a ∧ (set4 w g o a b c d).cell? ⟨g, o + 1, none⟩ = some b ∧ (set4 w g o a b c d).cell? ⟨g, o + 2, none⟩ = some c ∧ (set4 w g o a b c d).cell? ⟨g, o + 3, none⟩ = some d := by
  have ne : ∀ i j, i ≠ j → (⟨g, o + i, none⟩ : Addr) ≠ ⟨g, o + j, none⟩ := fun i j h e => h (by have := congrArg Addr.off e; simp at this; exact this)
  have n01 := ne 0 1 (by decide)
  have n02 := ne 0 2 (by decide)
  have n03 := ne 0 3 (by decide)
  have n12 := ne 1 2 (by decide)
  have n13 := ne 1 3 (by decide)
  have n23 := ne 2 3 (by decide)
  rw [Nat.add_zero] at n01 n02 n03
  unfold set4
  refine ⟨?_, ?_, ?_, ?_⟩
  · rw [World.cell?_setCell_other _ _ _ _ n03.symm, World.cell?_setCell_other _ _ _ _ n02.symm, World.cell?_setCell_other _ _ _ _ n01.symm]
    exact World.cell?_setCell_same _ _ _ h0
  · rw [World.cell?_setCell_other _ _ _ _ n13.symm, World.cell?_setCell_other _ _ _ _ n12.symm]
    exact World.cell?_setCell_same _ _ _ (by rw [World.cell?_setCell_other _ _ _ _ n01]; exact h1)
  · rw [World.cell?_setCell_other _ _ _ _ n23.symm]
    exact World.cell?_setCell_same _ _ _ (by rw [World.cell?_setCell_other _ _ _ _ n12, World.cell?_setCell_other _ _ _ _ n02]; exact h2)
  · exact World.cell?_setCell_same _ _ _ (by rw [World.cell?_setCell_other _ _ _ _ n23, World.cell?_setCell_other _ _ _ _ n13, World.cell?_setCell_other _ _ _ _ n03]; exact h3)
theorem ButS.set4 {P : Nat → Prop} {v : World} (h : ButS P v w) (hg : P g ∨ v.heap.size ≤ g) : ButS P v (set4 w g o a b c d) := by
  unfold Go.Proofs.YtbjbbpbagnlkmaaDoor.set4
  exact (((h.setCell (p := ⟨g, o, none⟩) hg a).setCell (p := ⟨g, o + 1, none⟩) hg b).setCell (p := ⟨g, o + 2, none⟩) hg c).setCell (p := ⟨g, o + 3, none⟩) hg d
end
section
variable {w w' : World} {P Q : Nat → Prop} {m gN cN gB cB room : Nat} {nds : List Nd} {bs : List Bool}
theorem RM.mono (h : RM w P m gN cN gB cB room nds bs) (hpq : ∀ g, P g → Q g) : RM w Q m gN cN gB cB room nds bs :=
  { h with
    pM := hpq _ h.pM
    pN := hpq _ h.pN
    pB := hpq _ h.pB
    rows := fun i n hi => by
      obtain ⟨B, cb, C, cc, h4, hr, hn⟩ := h.rows i n hi
      exact ⟨B, cb, C, cc, h4, hr.mono fun g hg _ => ⟨hpq g hg.1, hg.2⟩, hn.mono fun g hg _ => ⟨hpq g hg.1, hg.2⟩⟩ }
theorem RM.put (h : RM w P m gN cN gB cB room nds bs) {i : Nat} (hi : i < bs.length) {x : Nd} {A B : Option Addr} {ca cb : Nat} (hA : RowI w (fun g => P g ∧ g ≠ m ∧ g ≠ gN ∧ g ≠ gB) A x.refs) (hB : RowI w (fun g => P g ∧ g ≠ m ∧ g ≠ gN ∧ g ≠ gB) B x.nums)
    (hw : x.refs.length ≤ 1000000 ∧ x.nums.length ≤ 1000000) :
    RM ((set4 w gN (i * 4) (.int .i64 x.kind) (.slice A x.refs.length ca) (.slice B x.nums.length cb) (.string ⟨x.text.toArray⟩)).setCell ⟨gB, i, none⟩ (.bool true)) P m gN cN gB cB room (nds.set i x) (bs.set i true) := by
  have hbut : ButS (fun g => g = gN ∨ g = gB) w ((set4 w gN (i * 4) (.int .i64 x.kind) (.slice A x.refs.length ca) (.slice B x.nums.length cb) (.string ⟨x.text.toArray⟩)).setCell ⟨gB, i, none⟩ (.bool true)) :=
    ((ButS.refl _ w).set4 (.inl (.inl rfl))).setCell (p := ⟨gB, i, none⟩) (.inl (.inr rfl)) _
  have hfr : ∀ p, ((set4 w gN (i * 4) (.int .i64 x.kind) (.slice A x.refs.length ca) (.slice B x.nums.length cb) (.string ⟨x.text.toArray⟩)).setCell ⟨gB, i, none⟩ (.bool true)).frozen? p = w.frozen? p := fun p => by rw [World.frozen?_setCell, set4_frozen]
  have hkeep : Kept w ((set4 w gN (i * 4) (.int .i64 x.kind) (.slice A x.refs.length ca) (.slice B x.nums.length cb) (.string ⟨x.text.toArray⟩)).setCell ⟨gB, i, none⟩ (.bool true)) (fun g => P g ∧ g ≠ m ∧ g ≠ gN ∧ g ≠ gB) := hbut.keptQ fun g hg e => by rcases e with e | e; exact hg.2.2.1 e; exact hg.2.2.2 e
  have hsz := hbut.size
  have hlen := h.len
  have hcN : ∀ p : Addr, p.block = gN → ((set4 w gN (i * 4) (.int .i64 x.kind) (.slice A x.refs.length ca) (.slice B x.nums.length cb) (.string ⟨x.text.toArray⟩)).setCell ⟨gB, i, none⟩ (.bool true)).cell? p = (set4 w gN (i * 4) (.int .i64 x.kind) (.slice A x.refs.length ca) (.slice B x.nums.length cb) (.string ⟨x.text.toArray⟩)).cell? p := fun p hp => World.cell?_setCell_other _ _ _ _ fun e => h.nNB (by rw [← hp, ← e])
  have hmm : ¬ (m = gN ∨ m = gB) := fun e => by rcases e with e | e; exact h.nMN e; exact h.nMB e
  refine ⟨hbut.cell hmm h.c0, by rw [List.length_set]; exact hbut.cell hmm h.c1, by rw [List.length_set]; exact hbut.cell hmm h.c2, fun j => by rw [hfr]; exact h.fM j, fun j => by rw [hfr]; exact h.fN j, fun j => by rw [hfr]; exact h.fB j, h.pM, h.pN, h.pB, h.nMN, h.nMB, h.nNB, Nat.lt_of_lt_of_le h.lN hsz, Nat.lt_of_lt_of_le h.lB hsz, ?_, ?_, by rw [List.length_set, List.length_set]; exact hlen, by rw [List.length_set]; exact h.one, by rw [List.length_set]; exact h.cap, h.small, ?_, by rw [List.length_set]; exact h.room'⟩
  · intro j n hj
    by_cases e : i = j
    · subst e
      rw [List.getElem?_set_self (by omega)] at hj
      obtain rfl := Option.some.inj hj
      obtain ⟨B', cb', C', cc', ⟨q0, q1, q2, q3⟩, _⟩ := h.rows i _ (List.getElem?_eq_getElem (by omega))
      obtain ⟨r0, r1, r2, r3⟩ := set4_near (a := .int .i64 x.kind) (b := .slice A x.refs.length ca) (c := .slice B x.nums.length cb) (d := .string ⟨x.text.toArray⟩) q0 q1 q2 q3
      exact ⟨A, ca, B, cb, ⟨(hcN _ rfl).trans r0, (hcN _ rfl).trans r1, (hcN _ rfl).trans r2, (hcN _ rfl).trans r3⟩, hA.kept hkeep, hB.kept hkeep⟩
    · rw [List.getElem?_set_ne e] at hj
      obtain ⟨B', cb', C', cc', ⟨q0, q1, q2, q3⟩, hr, hn⟩ := h.rows j n hj
      have far : ∀ k, k < 4 → (set4 w gN (i * 4) (.int .i64 x.kind) (.slice A x.refs.length ca) (.slice B x.nums.length cb) (.string ⟨x.text.toArray⟩)).cell? ⟨gN, j * 4 + k, none⟩ = w.cell? ⟨gN, j * 4 + k, none⟩ := fun k hk => set4_far fun l hl e' => by
        have := congrArg Addr.off e'
        simp at this
        omega
      exact ⟨B', cb', C', cc', ⟨((hcN _ rfl).trans (far 0 (by decide))).trans q0, ((hcN _ rfl).trans (far 1 (by decide))).trans q1, ((hcN _ rfl).trans (far 2 (by decide))).trans q2, ((hcN _ rfl).trans (far 3 (by decide))).trans q3⟩, hr.kept hkeep, hn.kept hkeep⟩
  · intro j b hj
    by_cases e : i = j
    · subst e
      rw [List.getElem?_set_self hi] at hj
      obtain rfl := Option.some.inj hj
      have q := h.bits i _ (List.getElem?_eq_getElem hi)
      exact World.cell?_setCell_same _ _ _ ((set4_far fun l hl e' => h.nNB (by have := congrArg Addr.block e'; exact this.symm)).trans q)
    · rw [List.getElem?_set_ne e] at hj
      have q := h.bits j _ hj
      rw [World.cell?_setCell_other _ _ _ _ (fun e' => e (by have := congrArg Addr.off e'; exact this))]
      exact (set4_far fun l hl e' => h.nNB (by have := congrArg Addr.block e'; exact this.symm)).trans q
  · intro n hn
    obtain ⟨j, hj⟩ := List.getElem?_of_mem hn
    by_cases e : i = j
    · subst e
      rw [List.getElem?_set_self (by omega)] at hj
      obtain rfl := Option.some.inj hj
      exact hw
    · rw [List.getElem?_set_ne e] at hj
      exact h.wide n (List.mem_of_getElem? hj)
end
end Go.Proofs.YtbjbbpbagnlkmaaDoor
namespace Go.Proofs.YtbjbbpbagnlkmaaDoor
open Go.RowKit
theorem int_info : (Tryd.prog.info? 3).map (fun i => (i.zero, i.size, i.bytes)) = some (some (.int .i64 0), 1, 8) := by kernel_rfl
theorem inW_one : ∀ q : Int, ∀ u ∈ inW q, u.oneCell' = true := by
  intro q u hu
  simp only [inW, List.mem_cons, List.not_mem_nil, or_false] at hu
  subst hu; rfl
theorem heapA_new (w : World) (X Y : Obj) : ((w.alloc X).alloc Y).heap[w.heap.size + 1]? = some Y := by
  have := (MapKept.heap_alloc (w.alloc X) Y).1
  simpa using this
theorem heapA_old (w : World) (X Y : Obj) : ((w.alloc X).alloc Y).heap[w.heap.size]? = some X := by
  rw [Below.heap_alloc (w.alloc X) Y w.heap.size (by simp)]
  exact (MapKept.heap_alloc w X).1
theorem nl_al {n : Nat} {w : World} {o : Obj} (h : n ≤ w.heap.size) : n ≤ (w.alloc o).heap.size := by simp; omega
theorem nl_d {n : Nat} {w : World} (h : n ≤ w.heap.size) : n ≤ w.drew.heap.size := h
theorem atR_row {w : World} {g o : Nat} {l : List Int} (h : AtR inW 1 w g o l) : ∀ (i : Nat) (x : Int), l[i]? = some x → w.cell? ⟨g, o + i, none⟩ = some (.int .i64 x) := fun i b hi => by
  have := h i b hi 0 _ rfl
  rwa [Nat.mul_one, Nat.add_zero] at this
structure Grew (nds : List Nd) (bs : List Bool) (nds' : List Nd) (bs' : List Bool) : Prop where
  len : bs.length ≤ bs'.length
  same : ∀ j : Nat, bs[j]? = some true → bs'[j]? = some true ∧ nds'[j]? = nds[j]?
theorem Grew.refl (nds : List Nd) (bs : List Bool) : Grew nds bs nds bs := ⟨Nat.le_refl _, fun _ h => ⟨h, rfl⟩⟩
theorem Grew.trans {a c e : List Nd} {b d f : List Bool} (h : Grew a b c d) (k : Grew c d e f) : Grew a b e f :=
  ⟨Nat.le_trans h.len k.len, fun j hj => ⟨(k.same j (h.same j hj).1).1, ((k.same j (h.same j hj).1).2).trans (h.same j hj).2⟩⟩
theorem Grew.put {nds : List Nd} {bs : List Bool} {i : Nat} (h : bs[i]? = some false) (x : Nd) : Grew nds bs (nds.set i x) (bs.set i true) :=
  ⟨by rw [List.length_set]; exact Nat.le_refl _, fun j hj => by
    have e : i ≠ j := fun e => by subst e; rw [h] at hj; cases hj
    rw [List.getElem?_set_ne e, List.getElem?_set_ne e]
    exact ⟨hj, rfl⟩⟩
structure LoopX (W0 wc wr : World) (n : Nd) (X : Nat) (C : Option Addr) (cc : Nat) (v : Value) (L : List Int) : Prop where
  below : Below W0.heap.size W0 wr
  size : wc.heap.size ≤ wr.heap.size
  x0 : wr.cell? ⟨X, 0, none⟩ = some (.int .i64 n.kind)
  x1 : wr.cell? ⟨X, 1, none⟩ = some v
  x2 : wr.cell? ⟨X, 2, none⟩ = some (.slice C n.nums.length cc)
  x3 : wr.cell? ⟨X, 3, none⟩ = some (.string ⟨n.text.toArray⟩)
  fx : wr.frozen? ⟨X, 1, none⟩ = false
  nums : RowI wr (fun g => W0.heap.size ≤ g ∧ g < wc.heap.size ∧ g ≠ X) C n.nums
  own : OwnR 3 1 inW wc.heap.size wr v L
theorem LoopX.next {W0 wc wr w2 : World} {n : Nd} {X : Nat} {C : Option Addr} {cc : Nat} {v : Value} {L L' : List Int} {y : Int} {T : TypeId} {g N k : Nat} (h : LoopX W0 wc wr n X C cc v L) (hlo : W0.heap.size ≤ X) (hX : X < wc.heap.size)
    (hg : (wr.alloc (.cells #[.int .i64 y] T)).grownBy w2 v.ownBlock) (ho : OwnR 3 1 inW wc.heap.size w2 (.slice (some ⟨g, 0, none⟩) N k) L') :
    LoopX W0 wc (w2.setCell ⟨X, 1, none⟩ (.slice (some ⟨g, 0, none⟩) N k)) n X C cc (.slice (some ⟨g, 0, none⟩) N k) L' := by
  have hne : some X ≠ v.ownBlock := fun e => by have := (World.ownsRow.lt h.own X e.symm).1; omega
  have hXr : X < wr.heap.size := Lib.lt_of_cell h.x0
  have hbl : w2.heap[X]? = wr.heap[X]? := (hg.block X (by simp; omega) hne).trans (Below.heap_alloc wr _ X hXr)
  have cell : ∀ j u, wr.cell? ⟨X, j, none⟩ = some u → w2.cell? ⟨X, j, none⟩ = some u := fun j u hu => by rw [World.cell?_of_block (w := wr) hbl]; exact hu
  have hgX : g ≠ X := by have := (World.ownsRow.lt ho g rfl).1; omega
  have hb2 : Below wc.heap.size wr w2 := ((Below.refl _ _).alloc h.size _).grown hg (by have := h.size; simp; omega) (fun k hk => (World.ownsRow.lt h.own k hk).1)
  refine ⟨((h.below.trans (hb2.mono (by omega))).setCell hlo _), ?_, ?_, World.cell?_setCell_same _ _ _ (cell 1 _ h.x1), ?_, ?_, ?_, ?_, ?_⟩
  · have := hb2.size; have := h.size; simp; omega
  · rw [World.cell?_setCell_other _ _ _ _ (by simp)]; exact cell 0 _ h.x0
  · rw [World.cell?_setCell_other _ _ _ _ (by simp)]; exact cell 2 _ h.x2
  · rw [World.cell?_setCell_other _ _ _ _ (by simp)]; exact cell 3 _ h.x3
  · rw [World.frozen?_setCell, World.frozen?_of_block (w := wr) hbl]; exact h.fx
  · refine h.nums.kept ⟨by have := hb2.size; simpa using this, fun b hb hl => ?_⟩
    rw [Below.heap_setCell w2 ⟨X, 1, none⟩ _ b hb.2.2]
    exact hb2.block b hb.2.1
  · exact World.ownsRow.kept ho (grown_set _ _ _) (.inr (fun e => hgX (Option.some.inj e)))
theorem own_rowI {w : World} {base : Nat} {v : Value} {L : List Int} (h : OwnR 3 1 inW base w v L) : ∃ (A : Option Addr) (cap : Nat), v = .slice A L.length cap ∧ RowI w (fun g => base ≤ g) A L := by
  rcases Nat.eq_zero_or_pos L.length with e | e
  · have hn : L = [] := List.length_eq_zero_iff.1 e
    obtain ⟨A, cap, rfl, _, _⟩ := OwnR.shape (f := inW) (fun _ => rfl) h
    exact ⟨A, cap, rfl, .inl hn⟩
  · obtain ⟨g, cap, rfl, hb, hg⟩ := World.ownsRow.form h e
    have ha := OwnR.at (f := inW) (fun _ => rfl) h rfl
    exact ⟨_, cap, rfl, .inr ⟨g, 0, rfl, hb, hg, atR_row ha⟩⟩
end Go.Proofs.YtbjbbpbagnlkmaaDoor
namespace Go.Proofs.YtbjbbpbagnlkmaaDoor
open Go.RowKit Go.Maps
theorem own_rowI' {base : Nat} {w : World} {g cap N : Nat} {l : List Int} (h : OwnR 3 1 inW base w (.slice (some ⟨g, 0, none⟩) N cap) l) (hN : N = l.length) (hg : g < w.heap.size) : RowI w (fun k => k = g) (some ⟨g, 0, none⟩) l := by
  refine .inr ⟨g, 0, rfl, rfl, hg, fun i x hi => ?_⟩
  have := OwnR.at (f := inW) (fun _ => rfl) h hN i x hi 0 _ rfl
  simpa using this
set_option maxHeartbeats 8000000 in
set_option maxRecDepth 10000 in
theorem pclone_any (l : List Int) (A : Option Addr) (ca : Nat) (w : World) (P : Nat → Prop) (hA : RowI w P A l) (hl : l.length ≤ 100000) :
    Calls Tryd.prog 28 #[.slice A l.length ca] w fun e w' => ∃ O co, e = .returned (.slice O l.length co) ∧ (l = [] ∨ ∃ g, O = some ⟨g, 0, none⟩ ∧ w.heap.size ≤ g ∧ g < w'.heap.size ∧ OwnR 3 1 inW w.heap.size w' (.slice (some ⟨g, 0, none⟩) l.length co) l) ∧ Below w.heap.size w w' := by
  obtain ⟨i0, hi0, hz0, hz1, hz2⟩ := info_parts int_info
  by_cases hn : l = []
  · subst hn
    cases A with
    | none =>
      have hq : ∀ (w : World) (n c : Nat), (binOp .eql 33 (.slice none n c) (.slice none 0 0)).run Tryd.prog w = .ok (.bool true) w := fun w n c => Lib.run_eql_slice_nil w _ _ none n c 0 0 Tryd.underlying33
      go_enter Tryd.func28, Tryd.ntmps28
      go_wp2_with fail
      go_ret
      refine ⟨none, 0, rfl, ?_, Below.refl _ _⟩
      simp
    | some a =>
      have hq : ∀ (w : World) (n c : Nat), (binOp .eql 33 (.slice (some a) n c) (.slice none 0 0)).run Tryd.prog w = .ok (.bool false) w := fun w n c => Lib.run_eql_slice_nil w _ _ (some a) n c 0 0 Tryd.underlying33
      go_enter Tryd.func28, Tryd.ntmps28
      go_wp2_with (at_builtin; refine of_stop ?_)
      refine stop_of ?_
      refine wpList_append_nothing rfl _ _ 33 rfl 3 i0 Tryd.underlying33 hi0 w.heap.size (some a) ca rfl rfl ?_
      go_wp2_with fail
      go_ret
      refine ⟨_, _, rfl, ?_, (Below.refl _ _).alloc (Nat.le_refl _) _⟩
      simp
  · rcases hA with h | ⟨g, o, rfl, _, hg, hc⟩
    · exact absurd h hn
    · have hpos : 0 < l.length := List.length_pos_iff.2 hn
      have HC := Lib.hid hc
      have hba : Below w.heap.size w (w.alloc (.cells #[] 3)) := (Below.refl _ _).alloc (Nat.le_refl _) _
      have HBa := Lib.hid hba
      have hq : ∀ (w : World) (n c : Nat), (binOp .eql 33 (.slice (some ⟨g, o, none⟩) n c) (.slice none 0 0)).run Tryd.prog w = .ok (.bool false) w := fun w n c => Lib.run_eql_slice_nil w _ _ (some ⟨g, o, none⟩) n c 0 0 Tryd.underlying33
      clear hc hba
      go_enter Tryd.func28, Tryd.ntmps28
      go_wp2_with (at_builtin; refine of_stop ?_)
      refine stop_of ?_
      refine wpList_append_rows (f := inW) (n := 1) (E := 3) (nb := 8) (X := ([] : List Int)) (base := w.heap.size) rfl _ _ rfl rfl (own_lit0 w w.heap.size (Nat.le_refl _)) (L2 := l) rfl (fun i x hi j u hj => ?_) hpos (N := l.length) (by simp) (Z := l) rfl Tryd.underlying33 hi0 hz0 hz1 hz2 rfl (by decide) (by decide) (fun _ => rfl) inW_one (by omega) (by simp) ?_
      · have := keep_cell HBa.out (HC.out i x hi)
        cases j with
        | zero => rw [← Option.some.inj hj, Nat.mul_one]; exact this
        | succ j => simp [inW] at hj
      · intro g2 k2 w2 ho2 hg2 hat2 hl2
        have hb2 : Below w.heap.size w w2 := HBa.out.grown hg2 (by simp) (fun k hk => by have := own_of (g := w.heap.size) rfl hk; omega)
        have hle : w.heap.size ≤ g2 := by rcases hat2 with e | e; exact Nat.le_of_eq (own_of (g := w.heap.size) rfl e).symm; simp at e; omega
        have HF := Lib.hid (⟨hle, hl2, ho2, hb2⟩ : w.heap.size ≤ g2 ∧ g2 < w2.heap.size ∧ _ ∧ Below w.heap.size w w2)
        clear ho2 hg2 hat2 hl2 hb2 hle
        go_wp2_with fail
        go_ret
        exact ⟨_, _, rfl, .inr ⟨g2, rfl, HF.out.1, HF.out.2.1, HF.out.2.2.1⟩, HF.out.2.2.2⟩
theorem pclone_row (l : List Int) (A : Option Addr) (ca : Nat) (w : World) (P : Nat → Prop) (hA : RowI w P A l) (hl : l.length ≤ 100000) :
    Calls Tryd.prog 28 #[.slice A l.length ca] w fun e w' => ∃ O co, e = .returned (.slice O l.length co) ∧ RowI w' (fun g => w.heap.size ≤ g) O l ∧ Below w.heap.size w w' :=
  (pclone_any l A ca w P hA hl).mono fun e w' ⟨O, co, he, h, hb⟩ => ⟨O, co, he, by
    rcases h with h | ⟨g, rfl, h1, h2, h3⟩
    · exact .inl h
    · exact (own_rowI' h3 rfl h2).mono fun k hk _ => by rw [hk]; exact h1, hb⟩
section
variable {w w' : World} {K : Nat → Prop} {a room cS bK low : Nat} {ps : List (Option Nat)} {t tm : Sh} {A : Option Addr}
set_option maxHeartbeats 4000000 in
set_option maxRecDepth 10000 in
theorem pfull_any (h : AR w K a room ps t tm A cS bK low) :
    Calls Tryd.prog 43 #[.pointer (some ⟨a, 0, none⟩)] w fun e w' => e = .returned (.bool (decide (room ≤ (liveA tm).length))) ∧ Below w.heap.size w w' := by
  have c0 := h.c0
  have c2 := h.c2
  have hM : ∀ n, (Builtin.len_ #[57] 3 #[.map (some bK)]).run Tryd.prog (w.drewN n) = .ok (.int .i64 ((liveA tm).length : Int)) (w.drewN n) := fun n => (h.below (below_drewN (Below.refl _ _) n)).map.len 3
  generalize (liveA tm).length = N at *
  clear h
  go_enter Tryd.func43, Tryd.ntmps43
  go_upto_region 1 with fail
  go_quiet (fail)
  go_wp2_with fail
  go_ret
  exact ⟨rfl, below_drewN (Below.refl _ _) _⟩
end
end Go.Proofs.YtbjbbpbagnlkmaaDoor
