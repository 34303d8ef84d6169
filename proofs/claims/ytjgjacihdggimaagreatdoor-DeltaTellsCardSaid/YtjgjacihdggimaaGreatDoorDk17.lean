/- Texts joined: NfE, NfF, NfO, NfG. -/
import Derived.Test.YtjgjacihdggimaaGreatDoorDk16
import Derived.Test.YtjgjacihdggimaaGreatDoorShelfN
import Derived.Lib.AtoiErrMem
import Derived.Deep.RegionHeld3
import Derived.Deep.RegionWith
import Derived.Test.YtjgjacihdggimaaGreatDoorDk03
import Derived.Maps.OwnSet
import Derived.Lib.SliceRun
import Derived.Test.YtjgjacihdggimaaGreatDoorDk05
set_option linter.all false
namespace Go.Proofs.YtjgjacihdggimaaGreatDoor
open Go.RowKit Go.Maps
theorem gTab9 : Tryz.prog.globalNamed "internal/strconv.uint64pow10" = some 0 := by kernel_rfl
def TabE (w : World) : Prop := Lib.TabIs Tryz.prog w "internal/strconv.uint64pow10" .u64 Lib.pow10Tab
theorem u8_info : (Tryz.prog.info? 5).map (fun i => (i.zero, i.size, i.bytes)) = some (some (.int .u8 0), 1, 1) := by kernel_rfl
def byW (b : UInt8) : List Value := [.int .u8 (b.toNat : Int)]
theorem byW_one : ∀ b : UInt8, ∀ u ∈ byW b, u.oneCell' = true := fun q u hu => by
  obtain rfl := List.mem_singleton.1 hu
  rfl
theorem byW_flat : ∀ l : List UInt8, l.flatMap byW = Lib.byteCells l
  | [] => rfl
  | b :: l => by rw [List.flatMap_cons, byW_flat l]; rfl
abbrev OwnB (base : Nat) (w : World) (v : Value) (l : List UInt8) : Prop := OwnR 5 1 byW base w v l
theorem appendInt_any {B : Nat} {w : World} (hE : Lib.TabBelow Tryz.prog B w "internal/strconv.uint64pow10" .u64 Lib.pow10Tab) (hB : B ≤ w.heap.size) (v : Value) (l : List UInt8) (h : OwnB B w v l) (hl : l.length ≤ 1000000) (x : Int) (hx : -9223372036854775808 ≤ x ∧ x ≤ 9223372036854775807) :
    Calls Tryz.prog 104 #[v, .int .i64 x, .int .i64 10] w fun e w' => ∃ v', e = .returned v' ∧ OwnB B w' v' (l ++ Lib.itoa x) ∧ Below B w w' := by
  have h' := h
  unfold OwnB OwnR at h'
  rw [byW_flat] at h'
  refine (Any.strconv_AppendInt_10 Tryz.laysM176 B l.length x hx.1 hx.2 v _ w h' hB (by omega) hE).mono fun e w' ⟨v', he, ho, hb, _⟩ => ⟨v', he, ?_, hb⟩
  unfold OwnB OwnR
  rw [byW_flat, Lib.byteCells_append, List.length_append]
  exact ho
theorem take_len_le {α : Type} (l : List α) (i : Nat) : (l.take i).length ≤ l.length := by rw [List.length_take]; omega
theorem rowT_take {l : List Int} (h : B64s l) (hl : l.length ≤ 200) (i : Nat) : (rowT (l.take i)).length ≤ 4400 :=
  rowT_small (fun x hx => h x (List.mem_of_mem_take hx)) (Nat.le_trans (take_len_le l i) hl)
theorem rowT_next {l : List Int} {i : Nat} {x : Int} (h : l[i]? = some x) : rowT (l.take i) ++ Lib.itoa x ++ [32] = rowT (l.take (i + 1)) := by
  rw [List.take_add_one, h]
  show _ = rowT (l.take i ++ [x])
  rw [rowT_snoc, List.append_assoc]
theorem bytes_zero9 {P : Program} (w : World) (src e : TypeId) (hs : P.underlying src = some (.slice e)) (he : P.underlying e = some (.int .u8)) (p : Option Addr) (c : Nat) :
    ∀ dst, P.underlying dst = some .string → (convert src dst (.slice p 0 c)).run P w = .ok (.string ByteArray.empty) w := by
  intro dst hd
  rw [run_convert_bytes_string w src dst e _ 0 c hs he hd]
  cases p with
  | none => simp [Conv.bytesToString]
  | some a =>
    rw [run_bytesToString w a 0 c [] (by simp [loadCells, loadCellsFrom])]
    rfl
set_option maxHeartbeats 8000000 in
set_option maxRecDepth 10000 in
theorem prow_any (l : List Int) (A : Option Addr) (ca : Nat) (w : World) (P : Nat → Prop) (hA : RowI w P A l) (h64 : B64s l) (hl : l.length ≤ 200) (hE : TabE w) :
    Calls Tryz.prog 92 #[.slice A l.length ca] w fun e w' => e = .returned (.string ⟨(rowT l).toArray⟩) ∧ Below w.heap.size w w' := by
  have HA := Lib.hid hA
  have H6 := Lib.hid h64
  have HE : Hid (Lib.TabBelow Tryz.prog w.heap.size w "internal/strconv.uint64pow10" .u64 Lib.pow10Tab) := Lib.hid (Lib.tabBelow_of_tabIs hE)
  obtain ⟨i0, hi0, hz0, hz1, hz2⟩ := info_parts u8_info
  clear hA h64 hE
  go_enter Tryz.func92, Tryz.ntmps92
  go_wp2_with fail
  go_loopw [3, 5, 8] (fun v _ vi wr => ∃ i : Nat, i ≤ l.length ∧ vi = .int .i64 (i : Int) ∧ Hid (OwnB w.heap.size wr v (rowT (l.take i))) ∧ Hid (Below w.heap.size w wr)) (fun _ _ vi _ => l.length - (RowKit.intOf vi).toNat)
  case atStart => exact ⟨0, Nat.zero_le _, rfl, Lib.hid (World.ownsRow_nil _ _ _ _), Lib.hid (Below.refl _ _)⟩
  case round =>
    obtain ⟨i, hi, rfl, HO, HB⟩ := hrel
    by_cases hlt : i < l.length
    · obtain ⟨g, o, rfl, _, _, hca⟩ := HA.out.at hlt
      obtain ⟨x, hx⟩ : ∃ x, l[i]? = some x := ⟨_, List.getElem?_eq_getElem hlt⟩
      have q0 := keep_cell HB.out (hca i x hx)
      have HX := Lib.hid (H6.out x (List.mem_of_getElem? hx))
      have HN := Lib.hid (rowT_next hx)
      have Hb := Lib.hid (rowT_take H6.out hl i)
      have Hb2 := Lib.hid (rowT_take H6.out hl (i + 1))
      clear hca hx
      go_wp2_with fail
      refine (appendInt_any (HE.out.on HB.out) HB.out.size _ _ HO.out (by have := Hb.out; omega) x HX.out).mono ?_
      rintro e w1 ⟨v1, rfl, ho1, hb1⟩
      have HO1 := Lib.hid ho1
      have HB1 := Lib.hid (HB.out.trans hb1)
      clear ho1 hb1
      go_wp2_with (at_builtin; refine of_stop ?_)
      refine stop_of ?_
      refine wpList_append_rows (f := byW) (n := 1) (E := 5) (nb := 1) (base := w.heap.size) rfl _ _ rfl rfl (OwnR.below HO1.out ((Below.refl _ _).alloc (Nat.le_refl _) _)) (L2 := [(32 : UInt8)]) rfl (one_row w1 32) (by simp) (N := (rowT (l.take (i + 1))).length) (by rw [← HN.out, List.length_append, List.length_append, List.length_append]) (Z := rowT (l.take (i + 1))) HN.out Tryz.underlying165 hi0 hz0 hz1 hz2 rfl (by decide) (by decide) (fun _ => rfl) byW_one (by have := Hb2.out; omega) (by have := HB1.out.size; simp; omega) ?_
      intro g2 k2 w2 ho2 hg2 hat2 hl2
      have HO2 := Lib.hid ho2
      have HB2 : Hid (Below w.heap.size w w2) := Lib.hid ((HB1.out.alloc HB1.out.size _).grown hg2 (by have := HB1.out.size; simp; omega) (fun k hk => (World.ownsRow.lt HO1.out k hk).1))
      clear ho2 hg2 hat2 hl2
      go_wp2_with fail
      go_roundw
      case rel => exact ⟨i + 1, by omega, by go_num, HO2, HB2⟩
      case measure => simp [RowKit.intOf]; omega
    · have HO' : Hid (OwnB w.heap.size wr u3 (rowT l)) := Lib.hid (by have := HO.out; rwa [List.take_of_length_le (by omega)] at this)
      obtain ⟨A2, c2, rfl, _, hc⟩ := OwnR.shape (f := byW) (n := 1) (fun _ => rfl) HO'.out
      have hcv : ∀ W, W = wr → (convert 165 9 (.slice A2 (rowT l).length c2)).run Tryz.prog W = .ok (.string ⟨(rowT l).toArray⟩) W := by
        intro W hW
        subst hW
        by_cases hn : rowT l = []
        · rw [hn]
          exact bytes_zero9 W 165 5 Tryz.underlying165 Tryz.underlying5 A2 c2 9 Tryz.underlying9
        · obtain ⟨g, o, rfl, hat⟩ := hc hn
          refine run_convert_bytes_back W 165 9 5 ⟨g, o, none⟩ c2 (rowT l) Tryz.underlying165 Tryz.underlying5 Tryz.underlying9 fun j hj => ?_
          have := hat j _ (List.getElem?_eq_getElem hj) 0 _ rfl
          rw [Go.WideShapes.add_plain]
          simpa using this
      have hcv' := hcv wr rfl
      have HR : Hid ((⟨(rowT l).toArray⟩ : ByteArray) = ⟨(rowT l).toArray⟩) := Lib.hid rfl
      generalize hT : rowT l = T at *
      clear hcv hc HO HO' HA H6
      go_wp2_with fail
      go_ret
      exact ⟨rfl, HB.out⟩
end Go.Proofs.YtjgjacihdggimaaGreatDoor
namespace Go.Proofs.YtjgjacihdggimaaGreatDoor
open Go.RowKit Go.Maps
theorem TabE.below {w w' : World} (h : TabE w) (hb : Below w.heap.size w w') : TabE w' := Lib.tabBelow_of_tabIs h w' hb
set_option maxHeartbeats 8000000 in
set_option maxRecDepth 10000 in
theorem plook_any {w : World} {K : Nat → Prop} {g : Nat} {n : Nd} {B C : Option Addr} {cb cc : Nat} (h4 : At4 w g 0 n B cb C cc) (hr : RowI w K B n.refs) (hn : RowI w K C n.nums) (hf : FitK n) (hE : TabE w) :
    Calls Tryz.prog 82 #[.pointer (some ⟨g, 0, none⟩)] w fun e w' => e = .returned (lookV n) ∧ Below w.heap.size w w' := by
  obtain ⟨⟨f1, f2, f3⟩, f4, f5, _⟩ := hf
  have zg : g < w.heap.size := Lib.lt_of_cell h4.1
  have hba : Below w.heap.size w (w.alloc (.cells #[.int .i64 0, .string ⟨#[]⟩, .string ⟨#[]⟩, .string ⟨#[]⟩] 144)) := (Below.refl _ _).alloc (Nat.le_refl _) _
  have hX := (MapKept.heap_alloc w (.cells #[.int .i64 0, .string ⟨#[]⟩, .string ⟨#[]⟩, .string ⟨#[]⟩] 144)).1
  have hsz : (w.alloc (.cells #[.int .i64 0, .string ⟨#[]⟩, .string ⟨#[]⟩, .string ⟨#[]⟩] 144)).heap.size = w.heap.size + 1 := by simp
  have q0 := keep_cell hba (show w.cell? ⟨g, 0, none⟩ = some (.int .i64 n.kind) from h4.1)
  have q1 := keep_cell hba (show w.cell? ⟨g, 1, none⟩ = some (.slice B n.refs.length cb) from h4.2.1)
  have q2 := keep_cell hba (show w.cell? ⟨g, 2, none⟩ = some (.slice C n.nums.length cc) from h4.2.2.1)
  have q3 := keep_cell hba (show w.cell? ⟨g, 3, none⟩ = some (.string ⟨n.text.toArray⟩) from h4.2.2.2)
  have hr0 := hr.below hba
  have hn0 := hn.below hba
  have hE0 := hE.below hba
  have HW := Lib.hid hba
  have HZ := Lib.hid hsz
  have HV : Hid (lookV n = .agg #[.int .i64 n.kind, .string ⟨(rowT n.refs).toArray⟩, .string ⟨(rowT n.nums).toArray⟩, .string ⟨n.text.toArray⟩]) := Lib.hid rfl
  have HX := Lib.hid hX
  clear h4 hr hn hE hba hX hsz
  go_enter Tryz.func82, Tryz.ntmps82
  go_upto_region 1 with fail
  generalize w.alloc (.cells #[.int .i64 0, .string ⟨#[]⟩, .string ⟨#[]⟩, .string ⟨#[]⟩] 144) = W0 at *
  have hgx : ¬ g = w.heap.size := by omega
  have HR1 := Lib.hid (fun w' (hb : Below W0.heap.size W0 w') => prow_any n.refs B cb w' K (hr0.below hb) f4 f1 (hE0.below hb))
  have HS := Lib.hid (fun w' (hb : ButS (fun h => h = w.heap.size) W0 w') => (show (w'.cell? ⟨g, 0, none⟩ = some (.int .i64 n.kind) ∧ w'.cell? ⟨g, 1, none⟩ = some (.slice B n.refs.length cb) ∧ w'.cell? ⟨g, 2, none⟩ = some (.slice C n.nums.length cc) ∧ w'.cell? ⟨g, 3, none⟩ = some (.string ⟨n.text.toArray⟩)) from ⟨hb.cell hgx q0, hb.cell hgx q1, hb.cell hgx q2, hb.cell hgx q3⟩))
  have HN := Lib.hid (fun w' (hb : Below W0.heap.size W0 w') => prow_any n.nums C cc w' K (hn0.below hb) f5 f2 (hE0.below hb))
  have hx0 : w.heap.size < W0.heap.size := by rw [HZ.out]; omega
  have hxg : w.heap.size ≠ g := by omega
  generalize rowT n.refs = TR at *
  generalize rowT n.nums = TN at *
  clear q0 q1 q2 q3 hr0 hn0 hE0
  go_region_held3 (fun w' => w'.cell? ⟨g, 0, none⟩ = some (.int .i64 n.kind) ∧ w'.cell? ⟨g, 1, none⟩ = some (.slice B n.refs.length cb) ∧ w'.cell? ⟨g, 2, none⟩ = some (.slice C n.nums.length cc) ∧ w'.cell? ⟨g, 3, none⟩ = some (.string ⟨n.text.toArray⟩))
    (first | with_reducible exact HS.out _ (by with_reducible repeat' (first | exact ButS.refl _ _ | exact hs1 | exact hs2 | exact Or.inl rfl | refine ButS.drew ?_ | refine ButS.setCell ?_ ?_ _)) | fail)
    (first
    | (have hG := HR1; clear HR1; go_at_call 92
       refine (hG.out _ (by with_reducible repeat' (first | exact Below.refl _ _ | refine Below.drew ?_))).mono ?_; rintro e w1 ⟨rfl, hb1'⟩
       have hb1 : Below W0.heap.size W0 w1 := by first | exact hb1' | exact (Below.drew (Below.refl W0.heap.size W0)).trans hb1'
       have hs1 : ButS (fun h => h = w.heap.size) W0 w1 := ButS.of_below hb1
       clear hG hb1')
    | (have hG := HN; clear HN; go_at_call 92
       refine (hG.out _ hb1).mono ?_; rintro e w2 ⟨rfl, hb2'⟩
       have hb2 : Below W0.heap.size W0 w2 := hb1.trans (hb2'.mono hb1.size)
       have y0 : w2.cell? ⟨w.heap.size, 0, none⟩ = some (.int .i64 0) := keep_cell hb2 (Lib.cell_of_heap HX.out 0)
       have y1 : w2.cell? ⟨w.heap.size, 1, none⟩ = some (.string ⟨#[]⟩) := keep_cell hb2 (Lib.cell_of_heap HX.out 1)
       have y2 : w2.cell? ⟨w.heap.size, 2, none⟩ = some (.string ⟨#[]⟩) := keep_cell hb2 (Lib.cell_of_heap HX.out 2)
       have y3 : w2.cell? ⟨w.heap.size, 3, none⟩ = some (.string ⟨#[]⟩) := keep_cell hb2 (Lib.cell_of_heap HX.out 3)
       have z0 : w2.frozen? ⟨w.heap.size, 0, none⟩ = false := keep_frozen hb2 hx0 (by simp [World.frozen?, HX.out])
       have z1 : w2.frozen? ⟨w.heap.size, 1, none⟩ = false := keep_frozen hb2 hx0 (by simp [World.frozen?, HX.out])
       have z2 : w2.frozen? ⟨w.heap.size, 2, none⟩ = false := keep_frozen hb2 hx0 (by simp [World.frozen?, HX.out])
       have z3 : w2.frozen? ⟨w.heap.size, 3, none⟩ = false := keep_frozen hb2 hx0 (by simp [World.frozen?, HX.out])
       have HB2 := Lib.hid (HW.out.trans (hb2.mono HW.out.size))
       have hs2 : ButS (fun h => h = w.heap.size) W0 w2 := ButS.of_below hb2
       clear hG hb2')
    | fail)
  go_wp2_with fail
  exact bodyPost_ret (v := .agg #[.int .i64 n.kind, .string ⟨TR.toArray⟩, .string ⟨TN.toArray⟩, .string ⟨n.text.toArray⟩]) (by simp [results, Tryz.results82, go_sem, y0, y1, y2, y3]) rfl
    ⟨by rw [HV.out], (((HB2.out.setCell (Nat.le_refl _) _).setCell (Nat.le_refl _) _).setCell (Nat.le_refl _) _).setCell (Nat.le_refl _) _⟩
end Go.Proofs.YtjgjacihdggimaaGreatDoor
namespace Go.Proofs.YtjgjacihdggimaaGreatDoor
open Go.RowKit Go.Maps
section
variable {P : Program} {w : World} {ops : Array Oper} {rest : List Oper} {o : Oper} {a : Act} {K : Act → World → Prop} {Q : Exit → Act → World → Prop} {E : Prop}
theorem step_lenm (hgd : o.guard = none) (s : Operand) (t : TypeId) (ho : o.op = .call { callee := .builtin .len, args := #[s], argTypes := #[t] }) {v : Value} (hs : a.eval s = v) {n : Int} (hrun : ∀ ty, (Builtin.len_ #[t] ty #[v]).run P w = .ok (.int .i64 n) w)
    (h : K (a.put o.dst (.int .i64 n)) w) : if Region.wanted o (yielded ops a.tmps) = true then Oper.wp P o a w K Q else E := by
  have hw : Region.wanted o (yielded ops a.tmps) = true := by simp [Region.wanted, hgd]
  rw [if_pos hw]
  unfold Oper.wp execOp
  simp only [ho, Go.resolve, invoke, builtin, Sem.run_bind, Sem.run_pure, Result.andThen_ok, List.map_toArray, List.map_cons, List.map_nil, hs, hrun]
  exact h
theorem wpList_lenm (hgd : o.guard = none) (s : Operand) (t : TypeId) (ho : o.op = .call { callee := .builtin .len, args := #[s], argTypes := #[t] }) {v : Value} (hs : a.eval s = v) {n : Int} (hrun : ∀ ty, (Builtin.len_ #[t] ty #[v]).run P w = .ok (.int .i64 n) w)
    (h : wpList P ops Q rest (a.put o.dst (.int .i64 n)) w) : wpList P ops Q (o :: rest) a w := by
  refine wpList_plain hgd fun K' hK' => ?_
  unfold Oper.wp execOp
  simp only [ho, Go.resolve, invoke, builtin, Sem.run_bind, Sem.run_pure, Result.andThen_ok, List.map_toArray, List.map_cons, List.map_nil, hs, hrun]
  exact hK' _ _ h
theorem step_lookm (hgd : o.guard = none) (m x : Operand) (t : TypeId) (c : Bool) (ho : o.op = .lookup t m x c) {v key : Value} (hm : a.eval m = v) (hx : a.eval x = key) {r : Value} (hrun : (Instr.lookup t v key c).run P w = .ok r w)
    (h : K (a.put o.dst r) w) : if Region.wanted o (yielded ops a.tmps) = true then Oper.wp P o a w K Q else E := by
  have hw : Region.wanted o (yielded ops a.tmps) = true := by simp [Region.wanted, hgd]
  rw [if_pos hw]
  unfold Oper.wp execOp
  simp only [ho, Sem.run_bind, Sem.run_pure, Result.andThen_ok, hm, hx, hrun]
  exact h
theorem step_updm (hgd : o.guard = none) (m x y : Operand) (t : TypeId) (ho : o.op = .mapUpdate t m x y) {v key val : Value} (hm : a.eval m = v) (hx : a.eval x = key) (hy : a.eval y = val) {w' : World} (hrun : (Instr.mapUpdate t v key val).run P w = .ok () w')
    (h : K (a.put o.dst undef) w') : if Region.wanted o (yielded ops a.tmps) = true then Oper.wp P o a w K Q else E := by
  have hw : Region.wanted o (yielded ops a.tmps) = true := by simp [Region.wanted, hgd]
  rw [if_pos hw]
  unfold Oper.wp execOp
  simp only [ho, Sem.run_bind, Sem.run_pure, Result.andThen_ok, hm, hx, hy, hrun]
  exact h
theorem wpList_updm (hgd : o.guard = none) (m x y : Operand) (t : TypeId) (ho : o.op = .mapUpdate t m x y) {v key val : Value} (hm : a.eval m = v) (hx : a.eval x = key) (hy : a.eval y = val) {w' : World} (hrun : (Instr.mapUpdate t v key val).run P w = .ok () w')
    (h : wpList P ops Q rest (a.put o.dst undef) w') : wpList P ops Q (o :: rest) a w := by
  refine wpList_plain hgd fun K' hK' => ?_
  unfold Oper.wp execOp
  simp only [ho, Sem.run_bind, Sem.run_pure, Result.andThen_ok, hm, hx, hy, hrun]
  exact hK' _ _ h
theorem step_delm (hgd : o.guard = none) (m x : Operand) (t k : TypeId) (ho : o.op = .call { callee := .builtin .delete, args := #[m, x], argTypes := #[t, k] }) {v key : Value} (hm : a.eval m = v) (hx : a.eval x = key) {w' : World} (hrun : (Builtin.delete_ #[t, k] o.type #[v, key]).run P w = .ok (.tuple #[]) w')
    (h : K (a.put o.dst (.tuple #[])) w') : if Region.wanted o (yielded ops a.tmps) = true then Oper.wp P o a w K Q else E := by
  have hw : Region.wanted o (yielded ops a.tmps) = true := by simp [Region.wanted, hgd]
  rw [if_pos hw]
  unfold Oper.wp execOp
  simp only [ho, Go.resolve, invoke, builtin, Sem.run_bind, Sem.run_pure, Result.andThen_ok, List.map_toArray, List.map_cons, List.map_nil, hm, hx, hrun]
  exact h
end
end Go.Proofs.YtjgjacihdggimaaGreatDoor
namespace Go.Proofs.YtjgjacihdggimaaGreatDoor
open Go.RowKit Go.Maps
theorem own_rowI' {base : Nat} {w : World} {g cap N : Nat} {l : List Int} (h : OwnR 3 1 inW base w (.slice (some ⟨g, 0, none⟩) N cap) l) (hN : N = l.length) (hg : g < w.heap.size) : RowI w (fun k => k = g) (some ⟨g, 0, none⟩) l := by
  refine .inr ⟨g, 0, rfl, rfl, hg, fun i x hi => ?_⟩
  have := OwnR.at (f := inW) (fun _ => rfl) h hN i x hi 0 _ rfl
  simpa using this
set_option maxHeartbeats 8000000 in
set_option maxRecDepth 10000 in
theorem pclone_any (l : List Int) (A : Option Addr) (ca : Nat) (w : World) (P : Nat → Prop) (hA : RowI w P A l) (hl : l.length ≤ 100000) :
    Calls Tryz.prog 77 #[.slice A l.length ca] w fun e w' => ∃ O co, e = .returned (.slice O l.length co) ∧ (l = [] ∨ ∃ g, O = some ⟨g, 0, none⟩ ∧ w.heap.size ≤ g ∧ g < w'.heap.size ∧ OwnR 3 1 inW w.heap.size w' (.slice (some ⟨g, 0, none⟩) l.length co) l) ∧ Below w.heap.size w w' := by
  obtain ⟨i0, hi0, hz0, hz1, hz2⟩ := info_parts int_info
  by_cases hn : l = []
  · subst hn
    cases A with
    | none =>
      have hq : ∀ (w : World) (n c : Nat), (binOp .eql 54 (.slice none n c) (.slice none 0 0)).run Tryz.prog w = .ok (.bool true) w := fun w n c => Lib.run_eql_slice_nil w _ _ none n c 0 0 Tryz.underlying54
      go_enter Tryz.func77, Tryz.ntmps77
      go_wp2_with fail
      go_ret
      refine ⟨none, 0, rfl, ?_, Below.refl _ _⟩
      simp
    | some a =>
      have hq : ∀ (w : World) (n c : Nat), (binOp .eql 54 (.slice (some a) n c) (.slice none 0 0)).run Tryz.prog w = .ok (.bool false) w := fun w n c => Lib.run_eql_slice_nil w _ _ (some a) n c 0 0 Tryz.underlying54
      go_enter Tryz.func77, Tryz.ntmps77
      go_wp2_with (at_builtin; refine of_stop ?_)
      refine stop_of ?_
      refine wpList_append_nothing rfl _ _ 54 rfl 3 i0 Tryz.underlying54 hi0 w.heap.size (some a) ca rfl rfl ?_
      go_wp2_with fail
      go_ret
      refine ⟨_, _, rfl, ?_, (Below.refl _ _).alloc (Nat.le_refl _) _⟩
      simp
  · rcases hA with h | ⟨g, o, rfl, _, hg, hc⟩
    · exact absurd h hn
    · have hpos : 0 < l.length := List.length_pos_iff.2 hn
      have HC := Lib.hid hc
      have hba : Below w.heap.size w (w.alloc (.cells #[] 3)) := (Below.refl _ _).alloc (Nat.le_refl _) _
      have HBa := Lib.hid hba
      have hq : ∀ (w : World) (n c : Nat), (binOp .eql 54 (.slice (some ⟨g, o, none⟩) n c) (.slice none 0 0)).run Tryz.prog w = .ok (.bool false) w := fun w n c => Lib.run_eql_slice_nil w _ _ (some ⟨g, o, none⟩) n c 0 0 Tryz.underlying54
      clear hc hba
      go_enter Tryz.func77, Tryz.ntmps77
      go_wp2_with (at_builtin; refine of_stop ?_)
      refine stop_of ?_
      refine wpList_append_rows (f := inW) (n := 1) (E := 3) (nb := 8) (X := ([] : List Int)) (base := w.heap.size) rfl _ _ rfl rfl (own_lit0 w w.heap.size (Nat.le_refl _)) (L2 := l) rfl (fun i x hi j u hj => ?_) hpos (N := l.length) (by simp) (Z := l) rfl Tryz.underlying54 hi0 hz0 hz1 hz2 rfl (by decide) (by decide) (fun _ => rfl) inW_one (by omega) (by simp) ?_
      · have := keep_cell HBa.out (HC.out i x hi)
        cases j with
        | zero => rw [← Option.some.inj hj, Nat.mul_one]; exact this
        | succ j => simp [inW] at hj
      · intro g2 k2 w2 ho2 hg2 hat2 hl2
        have hb2 : Below w.heap.size w w2 := HBa.out.grown hg2 (by simp) (fun k hk => by have := own_of (g := w.heap.size) rfl hk; omega)
        have hle : w.heap.size ≤ g2 := by rcases hat2 with e | e; exact Nat.le_of_eq (own_of (g := w.heap.size) rfl e).symm; simp at e; omega
        have HF := Lib.hid (⟨hle, hl2, ho2, hb2⟩ : w.heap.size ≤ g2 ∧ g2 < w2.heap.size ∧ _ ∧ Below w.heap.size w w2)
        clear ho2 hg2 hat2 hl2 hb2 hle
        go_wp2_with fail
        go_ret
        exact ⟨_, _, rfl, .inr ⟨g2, rfl, HF.out.1, HF.out.2.1, HF.out.2.2.1⟩, HF.out.2.2.2⟩
theorem pclone_row (l : List Int) (A : Option Addr) (ca : Nat) (w : World) (P : Nat → Prop) (hA : RowI w P A l) (hl : l.length ≤ 100000) :
    Calls Tryz.prog 77 #[.slice A l.length ca] w fun e w' => ∃ O co, e = .returned (.slice O l.length co) ∧ RowI w' (fun g => w.heap.size ≤ g) O l ∧ Below w.heap.size w w' :=
  (pclone_any l A ca w P hA hl).mono fun e w' ⟨O, co, he, h, hb⟩ => ⟨O, co, he, by
    rcases h with h | ⟨g, rfl, h1, h2, h3⟩
    · exact .inl h
    · exact (own_rowI' h3 rfl h2).mono fun k hk _ => by rw [hk]; exact h1, hb⟩
section
variable {w w' : World} {K : Nat → Prop} {a room cS bK low : Nat} {ps : List (Option Nat)} {t tm : Sh} {A : Option Addr}
set_option maxHeartbeats 4000000 in
set_option maxRecDepth 10000 in
theorem pfull_any (h : AR w K a room ps t tm A cS bK low) :
    Calls Tryz.prog 83 #[.pointer (some ⟨a, 0, none⟩)] w fun e w' => e = .returned (.bool (decide (room ≤ (liveA tm).length))) ∧ Below w.heap.size w w' := by
  have c0 := h.c0
  have c2 := h.c2
  have hM : ∀ n, (Builtin.len_ #[61] 3 #[.map (some bK)]).run Tryz.prog (w.drewN n) = .ok (.int .i64 ((liveA tm).length : Int)) (w.drewN n) := fun n => (h.below (below_drewN (Below.refl _ _) n)).map.len 3
  generalize (liveA tm).length = N at *
  clear h
  go_enter Tryz.func83, Tryz.ntmps83
  go_upto_region 1 with fail
  go_quiet (fail)
  go_wp2_with fail
  go_ret
  exact ⟨rfl, below_drewN (Below.refl _ _) _⟩
end
end Go.Proofs.YtjgjacihdggimaaGreatDoor
