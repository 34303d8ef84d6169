/- Texts joined: MoR, RwA, MoS, MoT, MoU, TrZ, FtA, MoV, MoW. -/
import Derived.Test.YthaoalmhhgllmaaDoorMb24
import Derived.Test.YthaoalmhhgllmaaDoorMb06
import Derived.Test.YthaoalmhhgllmaaDoorMb07
import Derived.Test.YthaoalmhhgllmaaDoorMb02
import Derived.Deep.AppendLies
import Derived.Maps.AppendAt
import Derived.Test.YthaoalmhhgllmaaDoorMb22
import Derived.Deep.RegionWith
import Derived.Test.YthaoalmhhgllmaaDoorMb23
import Derived.Test.YthaoalmhhgllmaaDoorMb08
set_option linter.all false
namespace Go.Proofs.YthaoalmhhgllmaaDoor
open Go.RowKit
set_option maxHeartbeats 8000000 in
set_option maxRecDepth 10000 in
theorem mOf_any {l : List Kno} (hl : l.length < maxLen) (hlb : ∀ q ∈ l, B64 q.c ∧ B64 q.r) (t : Tr) (hW : Wid t) (hf : Fit t) (hcn : cntT t ≤ 1000000) (w : World) (A : Option Addr) (ca : Nat) (B : Option Addr) (lc : Nat) (hA : KVc w (fun _ => True) t A ca) (hc : ListK w B l) {S : Nat} (hSB : S ≤ w.heap.size) (hSt : Strs S S w) :
    Calls Tryd.prog 7 #[tv t A ca, .slice B l.length lc] w fun e w' => e = .returned (.int .i64 (owV l t)) ∧ Below w.heap.size w w' := by
  have H1 := Lib.hid (fun w1 (hb : Below w.heap.size w w1) => sright_any t hW w1 _ A ca (hA.kv.kept (Kept.of_below hb)) S (Nat.le_trans hSB hb.size) (hSt.later hSB hb))
  have H2 : Hid (rightP t = true → owV l t = wyT l t ∧ ∀ b, OfC l b t) := Lib.hid fun hr => ⟨by unfold owV; rw [if_pos hr], fun b => of_any hW ⟨((right_iff t).1 hr).2.2, hf, hcn⟩⟩
  have H3 : Hid (rightP t = false → owV l t = 3) := Lib.hid fun hr => by unfold owV; rw [if_neg (by rw [hr]; decide)]
  have hb0 : Below (w.heap.size + 1) (w.alloc (.cells #[.int .i64 t.kind, .int .i64 t.num, .int .i64 t.c1, .int .i64 t.r1, .int .i64 t.c2, .int .i64 t.r2, .string ⟨t.word.toArray⟩, .slice A t.kids.length ca] 29)) (w.alloc (.cells #[.int .i64 t.kind, .int .i64 t.num, .int .i64 t.c1, .int .i64 t.r1, .int .i64 t.c2, .int .i64 t.r2, .string ⟨t.word.toArray⟩, .slice A t.kids.length ca] 29)) := Below.refl _ _
  have kb := (parT hb0).2.2
  have HF := Lib.hid (fun w1 (hb : Below w.heap.size w w1) => mfirst_any l hl hlb B lc w1 (hc.below hb))
  have HA := Lib.hid hA
  unfold tv at *
  clear hA hW hf hcn hc hl hlb hSt hSB
  cases hR : rightP t
  all_goals
    rw [hR] at H1
  · have HE := Lib.hid (H3.out hR)
    have HC := Lib.hid (H1.out _ kb)
    clear H1 H2 H3 hR HF HA
    go_enter Tryd.func7, Tryd.ntmps7
    go_wp2_with fail
    refine HC.out.mono ?_; rintro e w1 ⟨rfl, b1⟩
    have hb1 := kb.trans (b1.mono (by simp))
    clear b1 kb hb0
    go_wp2_with fail
    go_ret
    exact ⟨ret_int HE.out.symm, hb1⟩
  · obtain ⟨he, hof⟩ := H2.out hR
    have HE := Lib.hid he
    have HC := Lib.hid (H1.out _ kb)
    have HO := Lib.hid (fun b w1 (hb : Below w.heap.size w w1) (hm : MapW w1 b l) => hof b w1 _ A ca (HA.out.below hb) hm)
    clear H1 H2 H3 hR he hof HA
    generalize wyT l t = X at *
    generalize owV l t = J at *
    go_enter Tryd.func7, Tryd.ntmps7
    go_wp2_with fail
    refine HC.out.mono ?_; rintro e w0 ⟨rfl, b0⟩
    have hb1 := hb0.trans (b0.mono (by simp))
    have HL : Hid (∀ w', Below w0.heap.size w0 w' → w'.cell? ⟨w.heap.size, 0, none⟩ = some (.int .i64 t.kind) ∧ w'.cell? ⟨w.heap.size, 1, none⟩ = some (.int .i64 t.num) ∧ w'.cell? ⟨w.heap.size, 2, none⟩ = some (.int .i64 t.c1) ∧ w'.cell? ⟨w.heap.size, 3, none⟩ = some (.int .i64 t.r1) ∧ w'.cell? ⟨w.heap.size, 4, none⟩ = some (.int .i64 t.c2) ∧ w'.cell? ⟨w.heap.size, 5, none⟩ = some (.int .i64 t.r2) ∧ w'.cell? ⟨w.heap.size, 6, none⟩ = some (.string ⟨t.word.toArray⟩) ∧ w'.cell? ⟨w.heap.size, 7, none⟩ = some (.slice A t.kids.length ca)) := Lib.hid fun w' hb => by
      obtain ⟨⟨k0, k1, k2, k3, k4, k5, k6, k7⟩, _⟩ := parT hb1
      exact ⟨keep_cell hb k0, keep_cell hb k1, keep_cell hb k2, keep_cell hb k3, keep_cell hb k4, keep_cell hb k5, keep_cell hb k6, keep_cell hb k7⟩
    have kb1 := (parT hb1).2.2
    clear b0 kb hb0 hb1 HC
    go_wp2_with fail
    go_region_held3 (fun w' => w'.cell? ⟨w.heap.size, 0, none⟩ = some (.int .i64 t.kind) ∧ w'.cell? ⟨w.heap.size, 1, none⟩ = some (.int .i64 t.num) ∧ w'.cell? ⟨w.heap.size, 2, none⟩ = some (.int .i64 t.c1) ∧ w'.cell? ⟨w.heap.size, 3, none⟩ = some (.int .i64 t.r1) ∧ w'.cell? ⟨w.heap.size, 4, none⟩ = some (.int .i64 t.c2) ∧ w'.cell? ⟨w.heap.size, 5, none⟩ = some (.int .i64 t.r2) ∧ w'.cell? ⟨w.heap.size, 6, none⟩ = some (.string ⟨t.word.toArray⟩) ∧ w'.cell? ⟨w.heap.size, 7, none⟩ = some (.slice A t.kids.length ca))
      (with_reducible exact HL.out _ (by with_reducible repeat' (first | exact Below.refl _ _ | exact B2 | exact B1 | exact Nat.le_refl _ | exact B2.size | exact B1.size | refine Below.drew ?_ | refine Below.alloc ?_ ?_ _ | refine Below.setCell ?_ ?_ _)))
      (first
      | (have hB := B1; clear hB; go_at_call 21
         refine Calls.mono (HO.out _ _ (kb1.trans (Below.mono (by with_reducible repeat' (first | exact Below.refl _ _ | exact B2 | exact B1 | exact Nat.le_refl _ | exact B2.size | exact B1.size | refine Below.drew ?_ | refine Below.alloc ?_ ?_ _ | refine Below.setCell ?_ ?_ _)) kb1.size)) (hM.below (by with_reducible repeat' (first | exact Below.refl _ _ | exact Nat.le_refl _ | refine Below.drew ?_ | refine Below.alloc ?_ ?_ _)))) ?_; rintro e w2 ⟨rfl, b2⟩
         have B2 : Below w0.heap.size w0 w2 := below_up (by with_reducible repeat' (first | exact Below.refl _ _ | exact B2 | exact B1 | exact Nat.le_refl _ | exact B2.size | exact B1.size | refine Below.drew ?_ | refine Below.alloc ?_ ?_ _ | refine Below.setCell ?_ ?_ _)) b2
         clear b2)
      | (go_at_call 20
         refine Calls.mono (HF.out _ (kb1.trans (Below.mono (by with_reducible repeat' (first | exact Below.refl _ _ | exact B2 | exact B1 | exact Nat.le_refl _ | exact B2.size | exact B1.size | refine Below.drew ?_ | refine Below.alloc ?_ ?_ _ | refine Below.setCell ?_ ?_ _)) kb1.size))) ?_; rintro e w1 ⟨bm, rfl, hM, hlm, b1⟩
         have B1 : Below w0.heap.size w0 w1 := below_up (by with_reducible repeat' (first | exact Below.refl _ _ | exact B2 | exact B1 | exact Nat.le_refl _ | exact B2.size | exact B1.size | refine Below.drew ?_ | refine Below.alloc ?_ ?_ _ | refine Below.setCell ?_ ?_ _)) b1
         clear b1)
      | fail)
    go_wp2_with fail
    go_ret
    exact ⟨ret_int HE.out.symm, kb1.trans (B2.mono kb1.size)⟩
end Go.Proofs.YthaoalmhhgllmaaDoor
namespace Go.Proofs.YthaoalmhhgllmaaDoor
open Go.RowKit
def OwnR {α : Type} (E : TypeId) (n : Nat) (f : α → List Value) (base : Nat) (w : World) (v : Value) (L : List α) : Prop := w.ownsRow base E n v L.length (L.flatMap f)
section
variable {α : Type} {E : TypeId} {n : Nat} {f : α → List Value}
theorem flatR_at (hf : ∀ q, (f q).length = n) : ∀ (l : List α) (i : Nat) (q : α), l[i]? = some q → ∀ (j : Nat) (u : Value), (f q)[j]? = some u → (l.flatMap f)[i * n + j]? = some u
  | [], i, q, h, _, _, _ => by simp at h
  | p :: t, 0, q, h, j, u, hj => by
    simp at h; subst h
    rw [List.flatMap_cons, Nat.zero_mul, Nat.zero_add, List.getElem?_append_left (by exact (List.getElem?_eq_some_iff.1 hj).1)]
    exact hj
  | p :: t, i + 1, q, h, j, u, hj => by
    have := flatR_at hf t i q (by simpa using h) j u hj
    have e : (i + 1) * n + j - n = i * n + j := by rw [Nat.succ_mul]; omega
    rw [List.flatMap_cons, List.getElem?_append_right (by rw [hf, Nat.succ_mul]; omega), hf, e]
    exact this
theorem OwnR.shape {base : Nat} {w : World} {v : Value} {L : List α} (hf : ∀ q, (f q).length = n) (h : OwnR E n f base w v L) : ∃ (A : Option Addr) (cap : Nat), v = .slice A L.length cap ∧ L.length ≤ cap ∧ (L ≠ [] → ∃ g o, A = some ⟨g, o, none⟩ ∧ AtR f n w g o L) := by
  have h' := h
  rcases h.2 with ⟨rfl, hl⟩ | ⟨g, cap, cur, rfl, _, hh, hc, _⟩
  · refine ⟨none, 0, by rw [hl], by rw [hl]; exact Nat.le_refl _, fun hne => ?_⟩
    exact absurd (List.length_eq_zero_iff.1 hl) hne
  · refine ⟨_, cap, rfl, hc, fun _ => ⟨g, 0, rfl, fun i q hi j u hj => ?_⟩⟩
    have hlt : i < L.length := (List.getElem?_eq_some_iff.1 hi).1
    have hjn : j < n := by have := (List.getElem?_eq_some_iff.1 hj).1; rwa [hf] at this
    have hle : i * n + j < L.length * n := by
      have h1 : (i + 1) * n ≤ L.length * n := Nat.mul_le_mul_right n hlt
      rw [Nat.succ_mul] at h1
      omega
    rw [Nat.zero_add]
    exact (World.ownsRow.cellAt h' (i * n + j) (by first | exact hle | omega)).trans (flatR_at hf L i q hi j u hj)
def Apart (v u : Value) : Prop := ∀ k, v.ownBlock = some k → u.ownBlock = some k → False
theorem Apart.symm {v u : Value} (h : Apart v u) : Apart u v := fun k hv hu => h k hu hv
theorem Apart.nil (u : Value) : Apart (.slice none 0 0) u := fun k hv _ => by cases hv
theorem OwnR.beside {base : Nat} {w w' : World} {v u : Value} {L : List α} (h : OwnR E n f base w u L) (hg : w.grownBy w' v.ownBlock) (ha : Apart v u) : OwnR E n f base w' u L := by
  refine World.ownsRow.kept h hg ?_
  cases hu : u.ownBlock with
  | none => exact .inl rfl
  | some k => exact .inr fun e => ha k e.symm hu
theorem OwnR.apart {base : Nat} {w : World} {v v' u : Value} {L : List α} (h : OwnR E n f base w u L) (ha : Apart v u) (hat : v'.ownBlock = v.ownBlock ∨ v'.ownBlock = some (w.heap.size + 1)) : Apart v' u := fun k hv hu => by
  rcases hat with e | e
  · exact ha k (e ▸ hv) hu
  · have h1 := (World.ownsRow.lt h k hu).2
    rw [e] at hv
    cases hv
    omega
theorem OwnR.below {base : Nat} {w w' : World} {v : Value} {L : List α} (h : OwnR E n f base w v L) (hb : Below w.heap.size w w') : OwnR E n f base w' v L := own_below h hb
theorem wpList_append_row {S : TypeId} {i0 : TypeInfo} {z : Value} {nb : Nat}
    (w : World) {ops : Array Oper} {rest : List Oper} {o : Oper} {a : Act} {Q : Exit → Act → World → Prop} (hg : o.guard = none) (s x : Operand) (ho : o.op = .call { callee := .builtin .append, args := #[s, x], argTypes := #[S, S] }) {base : Nat} {v : Value} {X : List α}
    (hs : a.eval s = v) {w0 : World} {q : α} (hw : w = w0.alloc (.cells (f q).toArray E)) (hown : OwnR E n f base w0 v X) (hx : a.eval x = .slice (some ⟨w0.heap.size, 0, none⟩) 1 1)
    (hu : Tryd.prog.underlying S = some (.slice E)) (hi0 : Tryd.prog.info? E = some i0) (hz0 : i0.zero = some z) (hz1 : i0.size = n) (hz2 : i0.bytes = nb) (hzc : z.cells.size = n) (hn0 : 0 < n) (hnb : nb ≤ 100)
    (hf : ∀ q, (f q).length = n) (h1c : ∀ q, ∀ u ∈ f q, u.oneCell' = true) (hlen : X.length ≤ 1000000) (hbase : base ≤ w0.heap.size)
    (h : ∀ v' w', OwnR E n f base w' v' (X ++ [q]) → w0.grownBy w' v.ownBlock → (v'.ownBlock = v.ownBlock ∨ v'.ownBlock = some (w0.heap.size + 1)) → wpList Tryd.prog ops Q rest (a.put o.dst v') w') : wpList Tryd.prog ops Q (o :: rest) a w := by
  subst hw
  have hb : (w0.alloc (.cells (f q).toArray E)).heap[w0.heap.size]? = some (.cells (f q).toArray E) := (MapKept.heap_alloc w0 _).1
  have hroom : nb * (X.length + 1) ≤ 200000000 := by
    have : nb * (X.length + 1) ≤ 100 * (1000000 + 1) := Nat.mul_le_mul hnb (by omega)
    omega
  refine wpList_append_own_at _ hg s x S ho base E i0 z n nb hu hi0 hz0 hz1 hz2 hzc hn0 v X.length (X.flatMap f) hs (World.ownsRow.alloc hown _) ⟨w0.heap.size, 0, none⟩ 1 1 (f q) hx (by rw [hf, Nat.one_mul]) ?_ (h1c q) (by unfold maxLen; omega) ?_ (by simp; omega) fun v' w' hown' hg' _ hat => h v' w' ?_ ?_ (by simpa using hat)
  · intro j u hj
    exact World.news_of_block (cs := (f q).toArray) (t := E) (fr := (0, 0)) hb j u (by simpa using hj)
  · first
    | omega
    | (have e : nb * (X.length + 1) = (X.length + 1) * nb := Nat.mul_comm _ _; omega)
  · unfold OwnR
    rw [List.length_append, List.flatMap_append]
    show w'.ownsRow base _ n v' (X.length + 1) (X.flatMap f ++ [q].flatMap f)
    rw [List.flatMap_singleton]
    exact hown'
  · exact ⟨hg'.os, hg'.tape, hg'.output, Nat.le_trans (by simp) hg'.size, fun k hk hn => (hg'.block k (by simp; omega) hn).trans (Below.heap_alloc w0 _ k hk)⟩
theorem step_append_row {S : TypeId} {i0 : TypeInfo} {z : Value} {nb : Nat}
    {w : World} {ops : Array Oper} {o : Oper} {a : Act} {K : Act → World → Prop} {Q : Exit → Act → World → Prop} {E0 : Prop} (hg : o.guard = none) (s x : Operand) (ho : o.op = .call { callee := .builtin .append, args := #[s, x], argTypes := #[S, S] }) {base : Nat} {v : Value} {X : List α}
    (hs : a.eval s = v) (B : Nat) {q : α} (hx : a.eval x = .slice (some ⟨B, 0, none⟩) 1 1) (hown : OwnR E n f base w v X) (hb : w.heap[B]? = some (.cells (f q).toArray E))
    (hu : Tryd.prog.underlying S = some (.slice E)) (hi0 : Tryd.prog.info? E = some i0) (hz0 : i0.zero = some z) (hz1 : i0.size = n) (hz2 : i0.bytes = nb) (hzc : z.cells.size = n) (hn0 : 0 < n) (hnb : nb ≤ 100)
    (hf : ∀ q, (f q).length = n) (h1c : ∀ q, ∀ u ∈ f q, u.oneCell' = true) (hlen : X.length ≤ 1000000) (hbase : base ≤ w.heap.size)
    (h : ∀ g cap w', OwnR E n f base w' (.slice (some ⟨g, 0, none⟩) (X.length + 1) cap) (X ++ [q]) → w.grownBy w' v.ownBlock → (v.ownBlock = some g ∨ g = w.heap.size) → K (a.put o.dst (.slice (some ⟨g, 0, none⟩) (X.length + 1) cap)) w') :
    if Region.wanted o (yielded ops a.tmps) = true then Oper.wp Tryd.prog o a w K Q else E0 := by
  have hroom : nb * (X.length + 1) ≤ 200000000 := by
    have : nb * (X.length + 1) ≤ 100 * (1000000 + 1) := Nat.mul_le_mul hnb (by omega)
    omega
  refine step_append_lies _ hg s x S ho base E i0 z n nb hu hi0 hz0 hz1 hz2 hzc hn0 v X.length (X.flatMap f) hs hown ⟨B, 0, none⟩ 1 1 (f q) hx (by rw [hf, Nat.one_mul]) ?_ (h1c q) (by omega) (by unfold maxLen; omega) ?_ hbase w.heap.size rfl fun g cap w' hown' hg' hat _ => h g cap w' ?_ hg' hat
  · intro j u hj
    exact World.news_of_block (cs := (f q).toArray) (t := E) (fr := (0, 0)) hb j u (by simpa using hj)
  · first
    | omega
    | (have e : nb * (X.length + 1) = (X.length + 1) * nb := Nat.mul_comm _ _; omega)
  · unfold OwnR
    rw [List.length_append, List.flatMap_append]
    show w'.ownsRow base _ n _ (X.length + 1) (X.flatMap f ++ [q].flatMap f)
    rw [List.flatMap_singleton]
    exact hown'
end
end Go.Proofs.YthaoalmhhgllmaaDoor
namespace Go.Proofs.YthaoalmhhgllmaaDoor
open Go.RowKit
def tx8 : List UInt8 := [83, 85, 77, 40, 65, 49, 58, 66, 50, 41, 47, 45, 50, 43, 73, 70, 40, 67, 49, 62, 49, 44, 45, 65, 49, 44, 48, 42, 66, 49, 41]
def ty8 : List UInt8 := [65, 49, 42, 66, 49]
def tr8 : Tr := opT [43] (opT [47] (callT [83, 85, 77] [spanT 0 0 1 1]) (negT (numT 2))) (callT [73, 70] [opT [62] (readT 2 0) (numT 1), negT (readT 0 0), opT [42] (numT 0) (readT 1 0)])
def ts8 : Tr := opT [42] (readT 0 0) (readT 1 0)
theorem liw_p : parseL tx8 = .good tr8 := by kernel_rfl
theorem liw_q : parseL ty8 = .good ts8 := by kernel_rfl
def k81 : List Kno := [⟨0, 0, 1⟩, ⟨1, 0, 0⟩]
def k82 : List Kno := [⟨2, 0, 1⟩]
def k83 : List Kno := [⟨0, 0, 1⟩]
theorem liw_1 : owV k81 tr8 = 2 := by kernel_rfl
theorem liw_2 : owV k82 tr8 = 3 := by kernel_rfl
theorem liw_3 : owV k83 ts8 = 3 := by kernel_rfl
theorem liw_4 : owV [] ts8 = 0 := by kernel_rfl
theorem liw_j : joinL [1, 0, 1] = 1 := by kernel_rfl
theorem liw_f : flipW 2 = 1 := by kernel_rfl
theorem liw_w : Wid tr8 ∧ Fit tr8 := ok_wf (by decide)
theorem liw_v : Wid ts8 ∧ Fit ts8 := ok_wf (by decide)
theorem liw_n : cntT tr8 ≤ 1000000 := by decide
theorem liw_m : cntT ts8 ≤ 1000000 := by decide
theorem liw_b : ∀ l ∈ [k81, k82, k83], ∀ q ∈ l, B64 q.c ∧ B64 q.r := by
  intro l hl q hq
  unfold B64
  simp only [List.mem_cons, List.not_mem_nil, or_false] at hl
  rcases hl with rfl | rfl | rfl <;> (simp only [k81, k82, k83, List.mem_cons, List.not_mem_nil, or_false] at hq)
  · rcases hq with rfl | rfl <;> decide
  · subst hq; decide
  · subst hq; decide
theorem atR_new {α : Type} {f : α → List Value} {n : Nat} (hf : ∀ q, (f q).length = n) (l : List α) (w : World) (t : TypeId) : AtR f n (w.alloc (.cells (l.flatMap f).toArray t)) w.heap.size 0 l := by
  intro i q hi j u hj
  have hb : (w.alloc (.cells (l.flatMap f).toArray t)).heap[w.heap.size]? = some (.cells (l.flatMap f).toArray t) := (MapKept.heap_alloc w _).1
  have := World.news_of_block (cs := (l.flatMap f).toArray) (t := t) (fr := (0, 0)) hb (i * n + j) u (by simpa using flatR_at hf l i q hi j u hj)
  rw [Go.WideShapes.add_plain] at this
  rwa [Nat.add_assoc]
theorem AtK.get {w : World} {g o : Nat} {l : List Kno} (h : AtK w g o l) {i : Nat} {q : Kno} (hi : l[i]? = some q) :
    w.cell? ⟨g, o + i * 3, none⟩ = some (.int .i64 q.c) ∧ w.cell? ⟨g, o + i * 3 + 1, none⟩ = some (.int .i64 q.r) ∧ w.cell? ⟨g, o + i * 3 + 2, none⟩ = some (.int .i64 q.w) :=
  ⟨h i q hi 0 _ rfl, h i q hi 1 _ rfl, h i q hi 2 _ rfl⟩
end Go.Proofs.YthaoalmhhgllmaaDoor
namespace Go.Proofs.YthaoalmhhgllmaaDoor
open Go.RowKit
theorem knoV_one : ∀ q : Kno, ∀ u ∈ knoV q, u.oneCell' = true := by
  intro q u hu
  simp only [knoV, List.mem_cons, List.not_mem_nil, or_false] at hu
  rcases hu with rfl | rfl | rfl <;> rfl
end Go.Proofs.YthaoalmhhgllmaaDoor
namespace Go.Proofs.YthaoalmhhgllmaaDoor
open Go.RowKit
set_option maxHeartbeats 8000000 in
set_option maxRecDepth 100000 in
theorem malive (w : World) {B : Nat} (hSB : B ≤ w.heap.size) (hSt : Strs B B w) :
    Calls Tryd.prog 6 #[] w fun e w' => e = .returned (.bool true) ∧ Below w.heap.size w w' := by
  have HS := Lib.hid (fun w1 (hb : Below w.heap.size w w1) => And.intro (Nat.le_trans hSB hb.size) (hSt.later hSB hb))
  have HP := Lib.hid (fun w => (rparse_anyC ⟨tx8.toArray⟩ (by decide) w).mono (R' := fun e w' => ∃ A ca, e = .returned (.tuple #[.agg #[.int .i64 tr8.kind, .int .i64 tr8.num, .int .i64 tr8.c1, .int .i64 tr8.r1, .int .i64 tr8.c2, .int .i64 tr8.r2, .string ⟨tr8.word.toArray⟩, .slice A tr8.kids.length ca], .int .i64 0, .int .i64 0]) ∧ KVc w' (fun _ => True) tr8 A ca ∧ Below w.heap.size w w') fun e w' hp => by
    rw [show (⟨tx8.toArray⟩ : ByteArray).data.toList = tx8 from rfl, liw_p] at hp
    obtain ⟨⟨A, ca, he, hk⟩, hb⟩ := hp
    exact ⟨A, ca, he, hk.imp fun _ _ => trivial, hb⟩)
  have HQ := Lib.hid (fun w => (rparse_anyC ⟨ty8.toArray⟩ (by decide) w).mono (R' := fun e w' => ∃ A ca, e = .returned (.tuple #[.agg #[.int .i64 ts8.kind, .int .i64 ts8.num, .int .i64 ts8.c1, .int .i64 ts8.r1, .int .i64 ts8.c2, .int .i64 ts8.r2, .string ⟨ts8.word.toArray⟩, .slice A ts8.kids.length ca], .int .i64 0, .int .i64 0]) ∧ KVc w' (fun _ => True) ts8 A ca ∧ Below w.heap.size w w') fun e w' hp => by
    rw [show (⟨ty8.toArray⟩ : ByteArray).data.toList = ty8 from rfl, liw_q] at hp
    obtain ⟨⟨A, ca, he, hk⟩, hb⟩ := hp
    exact ⟨A, ca, he, hk.imp fun _ _ => trivial, hb⟩)
  have HF := Lib.hid (fun w => mflip_any 2 w)
  rw [liw_f] at HF
  have HJ := Lib.hid (fun A w (h : ListI w A [1, 0, 1]) => mjoin_any [1, 0, 1] (by decide) A 3 w h)
  rw [liw_j] at HJ
  have HLI : Hid (∀ (wx : World) g, g = wx.heap.size → ListI (wx.alloc (.cells #[.int .i64 1, .int .i64 0, .int .i64 1] 31)) (some ⟨g, 0, none⟩) [1, 0, 1]) := Lib.hid fun wx g hgx _ => ⟨_, _, by rw [hgx], atR_new (f := fun x : Int => [.int .i64 x]) (n := 1) (fun _ => rfl) [1, 0, 1] wx 31⟩
  have KK : Hid (∀ w1 w2 A ca D cd, KVc w1 (fun _ => True) tr8 A ca → KVc w2 (fun _ => True) ts8 D cd → Below w.heap.size w w1 → Below (w1.alloc (.cells #[.int .i64 tr8.kind, .int .i64 tr8.num, .int .i64 tr8.c1, .int .i64 tr8.r1, .int .i64 tr8.c2, .int .i64 tr8.r2, .string ⟨tr8.word.toArray⟩, .slice A tr8.kids.length ca] 29)).heap.size (w1.alloc (.cells #[.int .i64 tr8.kind, .int .i64 tr8.num, .int .i64 tr8.c1, .int .i64 tr8.r1, .int .i64 tr8.c2, .int .i64 tr8.r2, .string ⟨tr8.word.toArray⟩, .slice A tr8.kids.length ca] 29)) w2 →
      (∀ w', Below (w2.heap.size + 1) (w2.alloc (.cells #[.int .i64 ts8.kind, .int .i64 ts8.num, .int .i64 ts8.c1, .int .i64 ts8.r1, .int .i64 ts8.c2, .int .i64 ts8.r2, .string ⟨ts8.word.toArray⟩, .slice D ts8.kids.length cd] 29)) w' → (w'.cell? ⟨w1.heap.size, 0, none⟩ = some (.int .i64 tr8.kind) ∧ w'.cell? ⟨w1.heap.size, 1, none⟩ = some (.int .i64 tr8.num) ∧ w'.cell? ⟨w1.heap.size, 2, none⟩ = some (.int .i64 tr8.c1) ∧ w'.cell? ⟨w1.heap.size, 3, none⟩ = some (.int .i64 tr8.r1) ∧ w'.cell? ⟨w1.heap.size, 4, none⟩ = some (.int .i64 tr8.c2) ∧ w'.cell? ⟨w1.heap.size, 5, none⟩ = some (.int .i64 tr8.r2) ∧ w'.cell? ⟨w1.heap.size, 6, none⟩ = some (.string ⟨tr8.word.toArray⟩) ∧ w'.cell? ⟨w1.heap.size, 7, none⟩ = some (.slice A tr8.kids.length ca)) ∧ (w'.cell? ⟨w2.heap.size, 0, none⟩ = some (.int .i64 ts8.kind) ∧ w'.cell? ⟨w2.heap.size, 1, none⟩ = some (.int .i64 ts8.num) ∧ w'.cell? ⟨w2.heap.size, 2, none⟩ = some (.int .i64 ts8.c1) ∧ w'.cell? ⟨w2.heap.size, 3, none⟩ = some (.int .i64 ts8.r1) ∧ w'.cell? ⟨w2.heap.size, 4, none⟩ = some (.int .i64 ts8.c2) ∧ w'.cell? ⟨w2.heap.size, 5, none⟩ = some (.int .i64 ts8.r2) ∧ w'.cell? ⟨w2.heap.size, 6, none⟩ = some (.string ⟨ts8.word.toArray⟩) ∧ w'.cell? ⟨w2.heap.size, 7, none⟩ = some (.slice D ts8.kids.length cd)) ∧ Below w.heap.size w w') ∧
      (∀ wx g, Below (w2.heap.size + 1) (w2.alloc (.cells #[.int .i64 ts8.kind, .int .i64 ts8.num, .int .i64 ts8.c1, .int .i64 ts8.r1, .int .i64 ts8.c2, .int .i64 ts8.r2, .string ⟨ts8.word.toArray⟩, .slice D ts8.kids.length cd] 29)) wx → g = wx.heap.size → Calls Tryd.prog 7 #[.agg #[.int .i64 tr8.kind, .int .i64 tr8.num, .int .i64 tr8.c1, .int .i64 tr8.r1, .int .i64 tr8.c2, .int .i64 tr8.r2, .string ⟨tr8.word.toArray⟩, .slice A tr8.kids.length ca], .slice (some ⟨g, 0, none⟩) 2 2] (wx.alloc (.cells #[.int .i64 0, .int .i64 0, .int .i64 1, .int .i64 1, .int .i64 0, .int .i64 0] 37)) fun e w' => e = .returned (.int .i64 2) ∧ Below (w2.heap.size + 1) (w2.alloc (.cells #[.int .i64 ts8.kind, .int .i64 ts8.num, .int .i64 ts8.c1, .int .i64 ts8.r1, .int .i64 ts8.c2, .int .i64 ts8.r2, .string ⟨ts8.word.toArray⟩, .slice D ts8.kids.length cd] 29)) w') ∧
      (∀ wx g, Below (w2.heap.size + 1) (w2.alloc (.cells #[.int .i64 ts8.kind, .int .i64 ts8.num, .int .i64 ts8.c1, .int .i64 ts8.r1, .int .i64 ts8.c2, .int .i64 ts8.r2, .string ⟨ts8.word.toArray⟩, .slice D ts8.kids.length cd] 29)) wx → g = wx.heap.size → Calls Tryd.prog 7 #[.agg #[.int .i64 tr8.kind, .int .i64 tr8.num, .int .i64 tr8.c1, .int .i64 tr8.r1, .int .i64 tr8.c2, .int .i64 tr8.r2, .string ⟨tr8.word.toArray⟩, .slice A tr8.kids.length ca], .slice (some ⟨g, 0, none⟩) 1 1] (wx.alloc (.cells #[.int .i64 2, .int .i64 0, .int .i64 1] 37)) fun e w' => e = .returned (.int .i64 3) ∧ Below (w2.heap.size + 1) (w2.alloc (.cells #[.int .i64 ts8.kind, .int .i64 ts8.num, .int .i64 ts8.c1, .int .i64 ts8.r1, .int .i64 ts8.c2, .int .i64 ts8.r2, .string ⟨ts8.word.toArray⟩, .slice D ts8.kids.length cd] 29)) w') ∧
      (∀ wx g, Below (w2.heap.size + 1) (w2.alloc (.cells #[.int .i64 ts8.kind, .int .i64 ts8.num, .int .i64 ts8.c1, .int .i64 ts8.r1, .int .i64 ts8.c2, .int .i64 ts8.r2, .string ⟨ts8.word.toArray⟩, .slice D ts8.kids.length cd] 29)) wx → g = wx.heap.size → Calls Tryd.prog 7 #[.agg #[.int .i64 ts8.kind, .int .i64 ts8.num, .int .i64 ts8.c1, .int .i64 ts8.r1, .int .i64 ts8.c2, .int .i64 ts8.r2, .string ⟨ts8.word.toArray⟩, .slice D ts8.kids.length cd], .slice (some ⟨g, 0, none⟩) 1 1] (wx.alloc (.cells #[.int .i64 0, .int .i64 0, .int .i64 1] 37)) fun e w' => e = .returned (.int .i64 3) ∧ Below (w2.heap.size + 1) (w2.alloc (.cells #[.int .i64 ts8.kind, .int .i64 ts8.num, .int .i64 ts8.c1, .int .i64 ts8.r1, .int .i64 ts8.c2, .int .i64 ts8.r2, .string ⟨ts8.word.toArray⟩, .slice D ts8.kids.length cd] 29)) w') ∧
      (∀ wx, Below (w2.heap.size + 1) (w2.alloc (.cells #[.int .i64 ts8.kind, .int .i64 ts8.num, .int .i64 ts8.c1, .int .i64 ts8.r1, .int .i64 ts8.c2, .int .i64 ts8.r2, .string ⟨ts8.word.toArray⟩, .slice D ts8.kids.length cd] 29)) wx → Calls Tryd.prog 7 #[.agg #[.int .i64 ts8.kind, .int .i64 ts8.num, .int .i64 ts8.c1, .int .i64 ts8.r1, .int .i64 ts8.c2, .int .i64 ts8.r2, .string ⟨ts8.word.toArray⟩, .slice D ts8.kids.length cd], .slice none 0 0] wx fun e w' => e = .returned (.int .i64 0) ∧ Below (w2.heap.size + 1) (w2.alloc (.cells #[.int .i64 ts8.kind, .int .i64 ts8.num, .int .i64 ts8.c1, .int .i64 ts8.r1, .int .i64 ts8.c2, .int .i64 ts8.r2, .string ⟨ts8.word.toArray⟩, .slice D ts8.kids.length cd] 29)) w')) := Lib.hid fun w1 w2 A ca D cd ht hu b1 b2 => by
    have hT2 : Below (w1.heap.size + 1) (w1.alloc (.cells #[.int .i64 tr8.kind, .int .i64 tr8.num, .int .i64 tr8.c1, .int .i64 tr8.r1, .int .i64 tr8.c2, .int .i64 tr8.r2, .string ⟨tr8.word.toArray⟩, .slice A tr8.kids.length ca] 29)) w2 := b2.mono (by simp)
    have z12 : w1.heap.size + 1 ≤ w2.heap.size := by have := b2.size; simpa using this
    have K : ∀ w', Below (w2.heap.size + 1) (w2.alloc (.cells #[.int .i64 ts8.kind, .int .i64 ts8.num, .int .i64 ts8.c1, .int .i64 ts8.r1, .int .i64 ts8.c2, .int .i64 ts8.r2, .string ⟨ts8.word.toArray⟩, .slice D ts8.kids.length cd] 29)) w' → (w'.cell? ⟨w1.heap.size, 0, none⟩ = some (.int .i64 tr8.kind) ∧ w'.cell? ⟨w1.heap.size, 1, none⟩ = some (.int .i64 tr8.num) ∧ w'.cell? ⟨w1.heap.size, 2, none⟩ = some (.int .i64 tr8.c1) ∧ w'.cell? ⟨w1.heap.size, 3, none⟩ = some (.int .i64 tr8.r1) ∧ w'.cell? ⟨w1.heap.size, 4, none⟩ = some (.int .i64 tr8.c2) ∧ w'.cell? ⟨w1.heap.size, 5, none⟩ = some (.int .i64 tr8.r2) ∧ w'.cell? ⟨w1.heap.size, 6, none⟩ = some (.string ⟨tr8.word.toArray⟩) ∧ w'.cell? ⟨w1.heap.size, 7, none⟩ = some (.slice A tr8.kids.length ca)) ∧ (w'.cell? ⟨w2.heap.size, 0, none⟩ = some (.int .i64 ts8.kind) ∧ w'.cell? ⟨w2.heap.size, 1, none⟩ = some (.int .i64 ts8.num) ∧ w'.cell? ⟨w2.heap.size, 2, none⟩ = some (.int .i64 ts8.c1) ∧ w'.cell? ⟨w2.heap.size, 3, none⟩ = some (.int .i64 ts8.r1) ∧ w'.cell? ⟨w2.heap.size, 4, none⟩ = some (.int .i64 ts8.c2) ∧ w'.cell? ⟨w2.heap.size, 5, none⟩ = some (.int .i64 ts8.r2) ∧ w'.cell? ⟨w2.heap.size, 6, none⟩ = some (.string ⟨ts8.word.toArray⟩) ∧ w'.cell? ⟨w2.heap.size, 7, none⟩ = some (.slice D ts8.kids.length cd)) ∧ KVc w' (fun _ => True) tr8 A ca ∧ KVc w' (fun _ => True) ts8 D cd ∧ B ≤ w'.heap.size ∧ Strs B B w' ∧ Below w.heap.size w w' := fun w' hb => by
      obtain ⟨pu, zu, hbu⟩ := parT hb
      obtain ⟨pt, zt, hbt⟩ := parT (hT2.trans (hbu.mono z12))
      have hbw := b1.trans (hbt.mono b1.size)
      exact ⟨pt, pu, ht.below hbt, hu.below hbu, (HS.out w' hbw).1, (HS.out w' hbw).2, hbw⟩
    have HH1 : Hid (∀ wx g, Below (w2.heap.size + 1) (w2.alloc (.cells #[.int .i64 ts8.kind, .int .i64 ts8.num, .int .i64 ts8.c1, .int .i64 ts8.r1, .int .i64 ts8.c2, .int .i64 ts8.r2, .string ⟨ts8.word.toArray⟩, .slice D ts8.kids.length cd] 29)) wx → g = wx.heap.size → Calls Tryd.prog 7 #[.agg #[.int .i64 tr8.kind, .int .i64 tr8.num, .int .i64 tr8.c1, .int .i64 tr8.r1, .int .i64 tr8.c2, .int .i64 tr8.r2, .string ⟨tr8.word.toArray⟩, .slice A tr8.kids.length ca], .slice (some ⟨g, 0, none⟩) 2 2] (wx.alloc (.cells #[.int .i64 0, .int .i64 0, .int .i64 1, .int .i64 1, .int .i64 0, .int .i64 0] 37)) fun e w' => e = .returned (.int .i64 2) ∧ Below (w2.heap.size + 1) (w2.alloc (.cells #[.int .i64 ts8.kind, .int .i64 ts8.num, .int .i64 ts8.c1, .int .i64 ts8.r1, .int .i64 ts8.c2, .int .i64 ts8.r2, .string ⟨ts8.word.toArray⟩, .slice D ts8.kids.length cd] 29)) w') := Lib.hid fun wx g hb hgx => by
      subst hgx
      have hbx : Below (w2.heap.size + 1) (w2.alloc (.cells #[.int .i64 ts8.kind, .int .i64 ts8.num, .int .i64 ts8.c1, .int .i64 ts8.r1, .int .i64 ts8.c2, .int .i64 ts8.r2, .string ⟨ts8.word.toArray⟩, .slice D ts8.kids.length cd] 29)) (wx.alloc (.cells #[.int .i64 0, .int .i64 0, .int .i64 1, .int .i64 1, .int .i64 0, .int .i64 0] 37)) := hb.alloc (by have := hb.size; simpa using this) _
      obtain ⟨_, _, hk1, hk2, hs1, hs2, _⟩ := K _ hbx
      have h := mOf_any (l := k81) (by decide) (liw_b k81 (by simp)) tr8 liw_w.1 liw_w.2 liw_n (wx.alloc (.cells #[.int .i64 0, .int .i64 0, .int .i64 1, .int .i64 1, .int .i64 0, .int .i64 0] 37)) A ca (some ⟨wx.heap.size, 0, none⟩) 2 hk1 (fun _ => ⟨_, _, rfl, atR_new (f := knoV) (n := 3) (fun _ => rfl) k81 wx 37⟩) hs1 hs2
      rw [liw_1] at h
      exact h.mono fun e w' hp => ⟨hp.1, hbx.trans (hp.2.mono (by have := hb.size; simp at this ⊢; omega))⟩
    have HH2 : Hid (∀ wx g, Below (w2.heap.size + 1) (w2.alloc (.cells #[.int .i64 ts8.kind, .int .i64 ts8.num, .int .i64 ts8.c1, .int .i64 ts8.r1, .int .i64 ts8.c2, .int .i64 ts8.r2, .string ⟨ts8.word.toArray⟩, .slice D ts8.kids.length cd] 29)) wx → g = wx.heap.size → Calls Tryd.prog 7 #[.agg #[.int .i64 tr8.kind, .int .i64 tr8.num, .int .i64 tr8.c1, .int .i64 tr8.r1, .int .i64 tr8.c2, .int .i64 tr8.r2, .string ⟨tr8.word.toArray⟩, .slice A tr8.kids.length ca], .slice (some ⟨g, 0, none⟩) 1 1] (wx.alloc (.cells #[.int .i64 2, .int .i64 0, .int .i64 1] 37)) fun e w' => e = .returned (.int .i64 3) ∧ Below (w2.heap.size + 1) (w2.alloc (.cells #[.int .i64 ts8.kind, .int .i64 ts8.num, .int .i64 ts8.c1, .int .i64 ts8.r1, .int .i64 ts8.c2, .int .i64 ts8.r2, .string ⟨ts8.word.toArray⟩, .slice D ts8.kids.length cd] 29)) w') := Lib.hid fun wx g hb hgx => by
      subst hgx
      have hbx : Below (w2.heap.size + 1) (w2.alloc (.cells #[.int .i64 ts8.kind, .int .i64 ts8.num, .int .i64 ts8.c1, .int .i64 ts8.r1, .int .i64 ts8.c2, .int .i64 ts8.r2, .string ⟨ts8.word.toArray⟩, .slice D ts8.kids.length cd] 29)) (wx.alloc (.cells #[.int .i64 2, .int .i64 0, .int .i64 1] 37)) := hb.alloc (by have := hb.size; simpa using this) _
      obtain ⟨_, _, hk1, hk2, hs1, hs2, _⟩ := K _ hbx
      have h := mOf_any (l := k82) (by decide) (liw_b k82 (by simp)) tr8 liw_w.1 liw_w.2 liw_n (wx.alloc (.cells #[.int .i64 2, .int .i64 0, .int .i64 1] 37)) A ca (some ⟨wx.heap.size, 0, none⟩) 1 hk1 (fun _ => ⟨_, _, rfl, atR_new (f := knoV) (n := 3) (fun _ => rfl) k82 wx 37⟩) hs1 hs2
      rw [liw_2] at h
      exact h.mono fun e w' hp => ⟨hp.1, hbx.trans (hp.2.mono (by have := hb.size; simp at this ⊢; omega))⟩
    have HH3 : Hid (∀ wx g, Below (w2.heap.size + 1) (w2.alloc (.cells #[.int .i64 ts8.kind, .int .i64 ts8.num, .int .i64 ts8.c1, .int .i64 ts8.r1, .int .i64 ts8.c2, .int .i64 ts8.r2, .string ⟨ts8.word.toArray⟩, .slice D ts8.kids.length cd] 29)) wx → g = wx.heap.size → Calls Tryd.prog 7 #[.agg #[.int .i64 ts8.kind, .int .i64 ts8.num, .int .i64 ts8.c1, .int .i64 ts8.r1, .int .i64 ts8.c2, .int .i64 ts8.r2, .string ⟨ts8.word.toArray⟩, .slice D ts8.kids.length cd], .slice (some ⟨g, 0, none⟩) 1 1] (wx.alloc (.cells #[.int .i64 0, .int .i64 0, .int .i64 1] 37)) fun e w' => e = .returned (.int .i64 3) ∧ Below (w2.heap.size + 1) (w2.alloc (.cells #[.int .i64 ts8.kind, .int .i64 ts8.num, .int .i64 ts8.c1, .int .i64 ts8.r1, .int .i64 ts8.c2, .int .i64 ts8.r2, .string ⟨ts8.word.toArray⟩, .slice D ts8.kids.length cd] 29)) w') := Lib.hid fun wx g hb hgx => by
      subst hgx
      have hbx : Below (w2.heap.size + 1) (w2.alloc (.cells #[.int .i64 ts8.kind, .int .i64 ts8.num, .int .i64 ts8.c1, .int .i64 ts8.r1, .int .i64 ts8.c2, .int .i64 ts8.r2, .string ⟨ts8.word.toArray⟩, .slice D ts8.kids.length cd] 29)) (wx.alloc (.cells #[.int .i64 0, .int .i64 0, .int .i64 1] 37)) := hb.alloc (by have := hb.size; simpa using this) _
      obtain ⟨_, _, hk1, hk2, hs1, hs2, _⟩ := K _ hbx
      have h := mOf_any (l := k83) (by decide) (liw_b k83 (by simp)) ts8 liw_v.1 liw_v.2 liw_m (wx.alloc (.cells #[.int .i64 0, .int .i64 0, .int .i64 1] 37)) D cd (some ⟨wx.heap.size, 0, none⟩) 1 hk2 (fun _ => ⟨_, _, rfl, atR_new (f := knoV) (n := 3) (fun _ => rfl) k83 wx 37⟩) hs1 hs2
      rw [liw_3] at h
      exact h.mono fun e w' hp => ⟨hp.1, hbx.trans (hp.2.mono (by have := hb.size; simp at this ⊢; omega))⟩
    refine ⟨fun w' hb => ⟨(K w' hb).1, (K w' hb).2.1, (K w' hb).2.2.2.2.2.2⟩, HH1.out, HH2.out, HH3.out, fun wx hb => ?_⟩
    obtain ⟨_, _, hk1, hk2, hs1, hs2, _⟩ := K _ hb
    have h := mOf_any (l := []) (by decide) (fun q hq => by cases hq) ts8 liw_v.1 liw_v.2 liw_m wx D cd none 0 hk2 (fun h => absurd rfl h) hs1 hs2
    rw [liw_4] at h
    exact h.mono fun e w' hp => ⟨hp.1, hb.trans (hp.2.mono (by have := hb.size; simpa using this))⟩
  have hl1 := liw_w.1.len
  have hl2 := liw_v.1.len
  unfold maxLen at hl1 hl2
  unfold tx8 at HP
  unfold ty8 at HQ
  clear hSB hSt HS
  generalize tr8 = T at *
  generalize ts8 = U at *
  go_enter Tryd.func6, Tryd.ntmps6
  go_wp2_with fail
  refine (HP.out _).mono ?_; rintro e w1 ⟨A, ca, rfl, ht, b1⟩
  go_wp2_with fail
  refine (HQ.out _).mono ?_; rintro e w2 ⟨D, cd, rfl, hu, b2⟩
  obtain ⟨hC, h1, h2, h3, h4⟩ := KK.out w1 w2 A ca D cd ht hu b1 b2
  have HC := Lib.hid hC
  have HO1 := Lib.hid h1
  have HO2 := Lib.hid h2
  have HO3 := Lib.hid h3
  have HO4 := Lib.hid h4
  have HB2 : Hid (Below (w2.heap.size + 1) (w2.alloc (.cells #[.int .i64 U.kind, .int .i64 U.num, .int .i64 U.c1, .int .i64 U.r1, .int .i64 U.c2, .int .i64 U.r2, .string ⟨U.word.toArray⟩, .slice D U.kids.length cd] 29)) (w2.alloc (.cells #[.int .i64 U.kind, .int .i64 U.num, .int .i64 U.c1, .int .i64 U.r1, .int .i64 U.c2, .int .i64 U.r2, .string ⟨U.word.toArray⟩, .slice D U.kids.length cd] 29))) := Lib.hid (Below.refl _ _)
  have n12 : w2.heap.size ≠ w1.heap.size := by have := b2.size; simp at this; omega
  clear KK HP HQ hC h1 h2 h3 h4 ht hu b1 b2
  obtain ⟨⟨k0, k1, k2, k3, k4, k5, k6, k7⟩, ⟨j0, j1, j2, j3, j4, j5, j6, j7⟩, _⟩ := HC.out _ HB2.out
  go_wp2_with fail
  refine Calls.mono (HO1.out _ _ HB2.out (by simp)) ?_; rintro e w3 ⟨rfl, b3⟩
  have HB3 := Lib.hid b3
  clear b3 k0 k1 k2 k3 k4 k5 k6 k7 j0 j1 j2 j3 j4 j5 j6 j7 HO1
  obtain ⟨⟨k0, k1, k2, k3, k4, k5, k6, k7⟩, ⟨j0, j1, j2, j3, j4, j5, j6, j7⟩, _⟩ := HC.out _ HB3.out
  go_wp2_with fail
  refine Calls.mono (HO2.out _ _ HB3.out (by simp)) ?_; rintro e w4 ⟨rfl, b4⟩
  have HB4 := Lib.hid b4
  clear b4 k0 k1 k2 k3 k4 k5 k6 k7 j0 j1 j2 j3 j4 j5 j6 j7 HO2
  obtain ⟨⟨k0, k1, k2, k3, k4, k5, k6, k7⟩, ⟨j0, j1, j2, j3, j4, j5, j6, j7⟩, _⟩ := HC.out _ HB4.out
  go_wp2_with fail
  refine Calls.mono (HO3.out _ _ HB4.out (by simp)) ?_; rintro e w5 ⟨rfl, b5⟩
  have HB5 := Lib.hid b5
  have z5 : (w2.heap.size + 1) ≤ w5.heap.size := by have := b5.size; simpa using this
  clear b5 k0 k1 k2 k3 k4 k5 k6 k7 j0 j1 j2 j3 j4 j5 j6 j7 HO3
  obtain ⟨⟨k0, k1, k2, k3, k4, k5, k6, k7⟩, ⟨j0, j1, j2, j3, j4, j5, j6, j7⟩, _⟩ := HC.out _ HB5.out
  go_wp2_with fail
  refine Calls.mono (HO4.out _ HB5.out) ?_; rintro e w6 ⟨rfl, b6⟩
  have HB6 := Lib.hid b6
  clear b6 k0 k1 k2 k3 k4 k5 k6 k7 j0 j1 j2 j3 j4 j5 j6 j7 HO4 HB5 HB4 HB3 HB2
  go_wp2_with fail
  refine Calls.mono (HJ.out _ _ (HLI.out _ _ (by simp))) ?_; rintro e w7 ⟨rfl, b7⟩
  have HB7 := Lib.hid ((HB6.out.alloc (by have := HB6.out.size; simpa using this) _).trans (b7.mono (by have := HB6.out.size; simp at this ⊢; omega)))
  clear b7 HJ HLI
  go_wp2_with fail
  refine Calls.mono (HF.out _) ?_; rintro e w8 ⟨rfl, b8⟩
  have HB8 := Lib.hid (HB7.out.trans (b8.mono (by have := HB7.out.size; simpa using this)))
  clear b8
  go_wp2_with fail
  go_ret
  exact ⟨rfl, (HC.out _ HB8.out).2.2⟩
end Go.Proofs.YthaoalmhhgllmaaDoor
namespace Go.Proofs.YthaoalmhhgllmaaDoor
open Go.RowKit
def witB : Nat → Tr → Bool
  | 0, _ => false
  | m + 1, t => decide (t.kids.length ≤ 400) && t.kids.all (witB m)
theorem wit_deep : ∀ {m : Nat} {t : Tr}, witB m t = true → deepT t ≤ m
  | 0, t, h => by cases h
  | m + 1, t, h => by
    rw [witB, Bool.and_eq_true, List.all_eq_true] at h
    rw [deep_eq]
    have key : ∀ (ks : List Tr), (∀ x ∈ ks, witB m x = true) → deepL ks ≤ m := by
      intro ks
      induction ks with
      | nil => intro _; rw [deepL]; exact Nat.zero_le _
      | cons a r ih =>
        intro hk
        rw [deepL]
        exact Nat.max_le.2 ⟨wit_deep (hk a (by simp)), ih fun x hx => hk x (by simp [hx])⟩
    have := key t.kids h.2
    omega
theorem all_take' {f : Tr → Bool} {ks : List Tr} {i : Nat} {u : Tr} (h : ks[i]? = some u) (ha : (ks.take i).all f = true) (hu : f u = true) : (ks.take (i + 1)).all f = true := by
  rw [List.take_add_one, h, List.all_append, ha]
  simp [hu]
theorem all_bad' {f : Tr → Bool} {ks : List Tr} {i : Nat} {u : Tr} (h : ks[i]? = some u) (hu : f u = false) : ks.all f = false := by
  rw [List.all_eq_false]
  exact ⟨u, List.mem_of_getElem? h, by rw [hu]; decide⟩
set_option maxHeartbeats 2000000 in
set_option maxRecDepth 10000 in
theorem lwithin_any : ∀ (m : Nat) (t : Tr), m ≤ 1000 → Wid t → ∀ (q : Int), q = (m : Int) → ∀ (w : World) (P : Nat → Prop) (A : Option Addr) (cap : Nat), KV w P t A →
    Calls Tryd.prog 17 #[tv t A cap, .int .i64 q] w fun e w' => e = .returned (.bool (witB m t)) ∧ Below w.heap.size w w' := by
  intro m
  induction m with
  | zero =>
    intro t _ _ q hq w P A cap _
    subst hq
    unfold tv
    go_enter Tryd.func17, Tryd.ntmps17
    go_wp2_with fail
    go_ret
    exact ⟨rfl, (Below.refl _ _).alloc (Nat.le_refl _) _⟩
  | succ m ih =>
    intro t hm hw q hq w P A cap hk
    unfold tv
    have hlen := hw.len
    unfold maxLen at hlen
    have HW := Lib.hid hw
    have HK := Lib.hid hk
    have HI := Lib.hid ih
    have HB : Hid (witB (m + 1) t = (decide (t.kids.length ≤ 400) && t.kids.all (witB m))) := Lib.hid rfl
    have dm : (q == 0) = false := by rw [beq_eq_false_iff_ne]; omega
    have hq1 : 1 ≤ q ∧ q ≤ 1000 := by omega
    have HQ := Lib.hid (show q - 1 = (m : Int) from by omega)
    have hm' : m ≤ 1000 := by omega
    clear hk ih hw hq hm
    by_cases h4 : 400 < t.kids.length
    · have d4 : decide ((400 : Int) < (t.kids.length : Int)) = true := decide_eq_true (by omega)
      have HF := Lib.hid (show witB (m + 1) t = false from by rw [HB.out, decide_eq_false (by omega)]; rfl)
      clear h4 HB
      go_enter Tryd.func17, Tryd.ntmps17
      go_wp2_with fail
      go_ret
      exact ⟨by rw [HF.out]; rfl, (Below.refl _ _).alloc (Nat.le_refl _) _⟩
    · have d4 : decide ((400 : Int) < (t.kids.length : Int)) = false := decide_eq_false (by omega)
      have HB2 := Lib.hid (show witB (m + 1) t = t.kids.all (witB m) from by rw [HB.out, decide_eq_true (by omega)]; rfl)
      clear h4 HB
      go_enter Tryd.func17, Tryd.ntmps17
      go_wp2_with fail
      go_loopw [5] (fun vi wr => ∃ i : Nat, i ≤ t.kids.length ∧ vi = .int .i64 (i : Int) ∧ Hid ((t.kids.take i).all (witB m) = true) ∧ Below w.heap.size w wr ∧ w.heap.size < wr.heap.size ∧ wr.cell? ⟨w.heap.size, 7, none⟩ = some (.slice A t.kids.length cap)) (fun vi _ => t.kids.length - (intOf vi).toNat)
      case atStart => exact ⟨0, Nat.zero_le _, rfl, Lib.hid rfl, (Below.refl _ _).alloc (Nat.le_refl _) _, by simp, by simp [go_sem]⟩
      case round =>
        obtain ⟨i, hi, rfl, HTK, hbel, hsz, c7⟩ := hrel
        by_cases hlt : i < t.kids.length
        · have hu : t.kids[i]? = some (t.kids[i]'hlt) := List.getElem?_eq_getElem hlt
          obtain ⟨g, o, rfl⟩ := HK.out.addr hu
          obtain ⟨hg, A', cap', h8, hkv⟩ := HK.out.kidAt hbel hu
          have HTE := Lib.hid fun e => all_take' hu HTK.out e
          have HTB := Lib.hid fun e => all_bad' (f := witB m) hu e
          have HC := Lib.hid (HI.out _ hm' (HW.out.kid hu) (q - 1) HQ.out wr _ A' cap' hkv)
          generalize t.kids[i]'hlt = x at *
          unfold At8 at h8
          unfold tv at HC
          obtain ⟨q0, q1, q2, q3, q4, q5, q6, q7⟩ := h8
          clear hkv hu
          go_wp2_with fail
          refine HC.out.mono ?_; rintro e w1 ⟨rfl, b1⟩
          have e7 := keep_cell b1 c7
          have s7 : w.heap.size < w1.heap.size := Nat.lt_of_lt_of_le hsz b1.size
          have hb1 := hbel.trans (b1.mono hbel.size)
          clear b1 c7 q0 q1 q2 q3 q4 q5 q6 q7
          generalize hM : witB m x = M at *
          cases M with
          | true =>
            have HG := Lib.hid (HTE.out rfl)
            clear HTE HTB hM
            go_wp2_with fail
            go_roundw
            case rel => exact ⟨i + 1, by omega, by go_num, HG, hb1, s7, e7⟩
            case measure => simp [intOf]; omega
          | false =>
            have HF := Lib.hid (HTB.out rfl)
            clear HTE HTB hM
            go_wp2_with fail
            go_ret
            exact ⟨by rw [HB2.out, HF.out]; rfl, hb1⟩
        · have hii : i = t.kids.length := by omega
          subst hii
          have hz : t.kids.all (witB m) = true := by have := HTK.out; rwa [List.take_length] at this
          have HZ := Lib.hid hz
          clear hz
          go_wp2_with fail
          go_ret
          exact ⟨by rw [HB2.out, HZ.out]; rfl, hbel⟩
end Go.Proofs.YthaoalmhhgllmaaDoor
namespace Go.Proofs.YthaoalmhhgllmaaDoor
open Go.RowKit
def fitsB (t : Tr) : Bool := decide (szT t 400 ≤ 400) && witB 40 t
theorem fits_iff {t : Tr} : fitsB t = true ↔ szT t 400 ≤ 400 ∧ witB 40 t = true := by unfold fitsB; simp
theorem fits_deep {t : Tr} (h : fitsB t = true) : deepT t ≤ 40 := wit_deep (fits_iff.1 h).2
set_option maxHeartbeats 1000000 in
set_option maxRecDepth 10000 in
theorem lfits_any (t : Tr) (hW : Wid t) (w : World) (A : Option Addr) (cap : Nat) (hk : KV w (fun _ => True) t A) :
    Calls Tryd.prog 5 #[tv t A cap] w fun e w' => e = .returned (.bool (fitsB t)) ∧ Below w.heap.size w w' := by
  have hlen := hW.len
  unfold maxLen at hlen
  have h0 : ∀ ob, Below w.heap.size w (w.alloc ob) := fun ob => (Below.refl _ _).alloc (Nat.le_refl _) ob
  have H1 := Lib.hid (fun ob => lsize_any hW 400 (by decide) (by decide) (w.alloc ob) (fun _ => True) A cap (hk.kept (Kept.of_below (h0 ob))))
  have H2 := Lib.hid (fun w1 (hb : Below w.heap.size w w1) => lwithin_any 40 t (by decide) hW 40 rfl w1 (fun _ => True) A cap (hk.kept (Kept.of_below hb)))
  have hb := szT_bound t 400 (by decide)
  unfold tv at *
  by_cases hz : szT t 400 ≤ 400
  · have hf : fitsB t = witB 40 t := by unfold fitsB; rw [decide_eq_true hz]; rfl
    have HF := Lib.hid hf
    have dz : decide (400 < szT t 400) = false := decide_eq_false (by omega)
    generalize szT t 400 = z at *
    clear hk hW hz hf
    go_enter Tryd.func5, Tryd.ntmps5
    go_wp2_with fail
    refine (H1.out _).mono ?_; rintro e w1 ⟨rfl, b1⟩
    have k10 := keep_fresh b1 0 (v := .int .i64 t.kind) rfl
    have k11 := keep_fresh b1 1 (v := .int .i64 t.num) rfl
    have k12 := keep_fresh b1 2 (v := .int .i64 t.c1) rfl
    have k13 := keep_fresh b1 3 (v := .int .i64 t.r1) rfl
    have k14 := keep_fresh b1 4 (v := .int .i64 t.c2) rfl
    have k15 := keep_fresh b1 5 (v := .int .i64 t.r2) rfl
    have k16 := keep_fresh b1 6 (v := .string ⟨t.word.toArray⟩) rfl
    have k17 := keep_fresh b1 7 (v := .slice A t.kids.length cap) rfl
    have h1 : Below w.heap.size w w1 := ((Below.refl _ _).alloc (Nat.le_refl _) _).trans (b1.mono (by simp))
    have HH := Lib.hid h1
    clear b1 h1
    go_wp2_with fail
    refine (H2.out w1 HH.out).mono ?_; rintro e w2 ⟨rfl, b2⟩
    have h2 := HH.out.trans (b2.mono HH.out.size)
    clear b2 k10 k11 k12 k13 k14 k15 k16 k17
    go_wp2_with fail
    go_ret
    exact ⟨by rw [HF.out]; rfl, h2⟩
  · have hf : fitsB t = false := by unfold fitsB; rw [decide_eq_false hz]; rfl
    have HF := Lib.hid hf
    have dz : decide (400 < szT t 400) = true := decide_eq_true (by omega)
    generalize szT t 400 = z at *
    clear hk hW hz hf
    go_enter Tryd.func5, Tryd.ntmps5
    go_wp2_with fail
    refine (H1.out _).mono ?_; rintro e w1 ⟨rfl, b1⟩
    have h1 : Below w.heap.size w w1 := ((Below.refl _ _).alloc (Nat.le_refl _) _).trans (b1.mono (by simp))
    clear b1
    go_wp2_with fail
    go_ret
    exact ⟨by rw [HF.out]; rfl, h1⟩
end Go.Proofs.YthaoalmhhgllmaaDoor
namespace Go.Proofs.YthaoalmhhgllmaaDoor
open Go.RowKit
theorem fits_cnt {t : Tr} (h : fitsB t = true) : cntT t ≤ 1000000 := by
  have h1 := (fits_iff.1 h).1
  have h2 := szT_cnt t 400 (by decide) h1
  omega
end Go.Proofs.YthaoalmhhgllmaaDoor
namespace Go.Proofs.YthaoalmhhgllmaaDoor
open Go.RowKit
def upM (f : Int) : Int := 9223372036854775807 - max f 0
def dnM (f : Int) : Int := if f < 0 then 9223372036854775807 - (-(f + 1)) else 9223372036854775807
def toM (q : Mov) : Int :=
  if q.w % 4 = 1 ∨ (q.w % 4 = 3 ∧ q.b % 2 = 0) then q.f + min q.b (upM q.f)
  else if q.w % 4 = 2 ∨ (q.w % 4 = 3 ∧ q.b % 2 = 1) then q.f - min q.b (dnM q.f) else q.f
theorem up_b {f : Int} (h : B64 f) : 0 ≤ upM f ∧ upM f ≤ 9223372036854775807 ∧ f + upM f ≤ 9223372036854775807 := by
  unfold B64 at h; unfold upM; omega
theorem dn_b {f : Int} (h : B64 f) : 0 ≤ dnM f ∧ dnM f ≤ 9223372036854775807 ∧ -9223372036854775808 ≤ f - dnM f := by
  unfold B64 at h; unfold dnM; split <;> omega
theorem to_b {q : Mov} (h : OkM q) : B64 (toM q) := by
  obtain ⟨_, _, _, hf, hb, _⟩ := h
  have h1 := up_b hf
  have h2 := dn_b hf
  unfold toM
  generalize upM q.f = U at *
  generalize dnM q.f = D at *
  unfold B64 at *
  repeat' split
  all_goals omega
theorem to_goes {q : Mov} (h : OkM q) : Goes (q.w % 4) q.f (toM q) := by
  obtain ⟨_, _, _, hf, hb, _⟩ := h
  have h1 := up_b hf
  have h2 := dn_b hf
  unfold toM Goes
  generalize upM q.f = U at *
  generalize dnM q.f = D at *
  refine ⟨fun e => ?_, fun e => ?_, fun e => ?_⟩
  · rw [if_neg (by omega), if_neg (by omega)]
  · rw [if_pos (by omega)]; omega
  · rw [if_neg (by omega), if_pos (by omega)]; omega
def cA (q : Mov) : Cel := ⟨q.c, q.r, q.f, 0⟩
def cB (q : Mov) : Cel := ⟨q.c, q.r, toM q, 0⟩
def kN (q : Mov) : Kno := ⟨q.c, q.r, q.w % 4⟩
def stepM (K : List Mov) (q : Mov) : List Mov := if (cAt q.c q.r (K.map cA)).isSome = true then K else K ++ [q]
def kpM (l : List Mov) : List Mov := l.foldl stepM []
theorem kp_next {l : List Mov} {i : Nat} {q : Mov} (h : l[i]? = some q) : kpM (l.take (i + 1)) = stepM (kpM (l.take i)) q := by
  unfold kpM
  rw [List.take_add_one, h]
  show (l.take i ++ [q]).foldl stepM [] = _
  rw [List.foldl_append]; rfl
theorem kp_mem : ∀ (l K : List Mov) (q : Mov), q ∈ l.foldl stepM K → q ∈ K ∨ q ∈ l
  | [], K, q, h => .inl h
  | p :: l, K, q, h => by
    rcases kp_mem l _ q h with h | h
    · unfold stepM at h
      split at h
      · exact .inl h
      · rcases List.mem_append.1 h with h | h
        · exact .inl h
        · rw [List.mem_singleton] at h
          exact .inr (h ▸ List.mem_cons_self ..)
    · exact .inr (List.mem_cons_of_mem _ h)
theorem kp_len : ∀ (l K : List Mov), (l.foldl stepM K).length ≤ K.length + l.length
  | [], K => Nat.le_refl _
  | p :: l, K => by
    have h := kp_len l (stepM K p)
    have h1 : (stepM K p).length ≤ K.length + 1 := by unfold stepM; split <;> simp
    rw [List.foldl_cons, List.length_cons]
    omega
theorem kp_ok {l : List Mov} (h : ∀ q ∈ l, OkM q) : ∀ q ∈ kpM l, OkM q := fun q hq => by
  rcases kp_mem l [] q hq with h1 | h1
  · cases h1
  · exact h q h1
theorem agr_kp : ∀ (K : List Mov), (∀ q ∈ K, OkM q) → AgrW (K.map cA) (K.map cB) (K.map kN)
  | [], _, x, y => .inl ⟨rfl, rfl⟩
  | q :: K, h, x, y => by
    rw [List.map_cons, List.map_cons, List.map_cons, cAt, cAt, wAt]
    by_cases e : q.c = x ∧ q.r = y
    · refine .inr ⟨q.f, toM q, ?_, ?_, ?_⟩
      · rw [if_pos (show (cA q).c = x ∧ (cA q).r = y from e)]; rfl
      · rw [if_pos (show (cB q).c = x ∧ (cB q).r = y from e)]; rfl
      · rw [if_pos (show (kN q).c = x ∧ (kN q).r = y from e)]
        have hq := h q (List.mem_cons_self ..)
        have hw : cleanW (kN q).w = q.w % 4 := clean_ok (by show OkW (q.w % 4); unfold OkW; omega)
        rw [hw]
        exact to_goes hq
    · rw [if_neg (show ¬ ((cA q).c = x ∧ (cA q).r = y) from e), if_neg (show ¬ ((cB q).c = x ∧ (cB q).r = y) from e), if_neg (show ¬ ((kN q).c = x ∧ (kN q).r = y) from e)]
      exact agr_kp K (fun p hp => h p (List.mem_cons_of_mem _ hp)) x y
theorem holds_any {l : List Mov} (h : ∀ q ∈ l, OkM q) (t : Tr) (h1 : (ofV ((kpM l).map cA) t).2 = 0) (h2 : (ofV ((kpM l).map cB) t).2 = 0) :
    Goes (owV ((kpM l).map kN) t) (ofV ((kpM l).map cA) t).1 (ofV ((kpM l).map cB) t).1 := by
  unfold ofV owV at *
  by_cases hr : rightP t = true
  · have hm := ((right_iff t).1 hr).2.2
    simp only [hr, if_true] at h1 h2 ⊢
    exact holds_way (agr_kp _ (kp_ok h)) hm h1 h2
  · rw [if_neg hr] at h1
    cases h1
end Go.Proofs.YthaoalmhhgllmaaDoor
