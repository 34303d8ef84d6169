/- Texts joined: TrH, TrI. -/
import Derived.Test.YtahdlijkohmdfaaGreatDoorMp28
import Derived.Test.YtahdlijkohmdfaaGreatDoorMp07
import Derived.Test.YtahdlijkohmdfaaGreatDoorMp11
set_option linter.all false
set_option linter.unusedVariables false
set_option linter.unusedSimpArgs false
namespace Go.Proofs.YtahdlijkohmdfaaGreatDoor
open Go.RowKit

def TreeC (R : Nat) (A : Option Addr) (cap : Nat) (L : List Tok) (E : Nat) (F : Nat) (args : Array Value) (f : Nat → Option Res) : Prop :=
  ∀ (w : World) (st : St) (g : Got), RS w R A cap L E st → TK w R A L → goS f st = some g →
    Calls Tryz.prog F args w fun e w' => ∃ x : V8, e = .returned x.val ∧ TV w' (fun b => w.heap.size ≤ b) x g.2 ∧ RS w' R A cap L E g.1 ∧ But R w w'
def OutC (R : Nat) (A : Option Addr) (cap : Nat) (L : List Tok) (E : Nat) (F : Nat) (args : Array Value) : Prop :=
  ∀ (w : World) (x : Nat), RS w R A cap L E (.out x) → TK w R A L →
    Calls Tryz.prog F args w fun e w' => ∃ v : V8, e = .returned v.val ∧ RS w' R A cap L E (.out x) ∧ But R w w'
theorem TreeC.of {R : Nat} {A : Option Addr} {cap : Nat} {L : List Tok} {E : Nat} {F : Nat} {args : Array Value} {f : Nat → Option Res} (ho : OutC R A cap L E F args)
    (h : ∀ (w : World) (p : Nat) (g : Got), RS w R A cap L E (.run p) → TK w R A L → toS (f p) = some g →
      Calls Tryz.prog F args w fun e w' => ∃ x : V8, e = .returned x.val ∧ TV w' (fun b => w.heap.size ≤ b) x g.2 ∧ RS w' R A cap L E g.1 ∧ But R w w') : TreeC R A cap L E F args f := by
  intro w st g hr hk hg
  cases st with
  | out x =>
    obtain rfl : (.out x, none) = g := Option.some.inj hg
    exact (ho w x hr hk).mono fun _ _ ⟨v, he, hs, hb⟩ => ⟨v, he, trivial, hs, hb⟩
  | run p => exact h w p g hr hk hg
theorem TreeC.out {R : Nat} {A : Option Addr} {cap : Nat} {L : List Tok} {E : Nat} {F : Nat} {args : Array Value} {f : Nat → Option Res} (h : TreeC R A cap L E F args f) : OutC R A cap L E F args :=
  fun w x hr hk => (h w (.out x) (.out x, none) hr hk rfl).mono fun _ _ ⟨v, he, _, hs, hb⟩ => ⟨v, he, hs, hb⟩

theorem RC.sameR {w w' : World} {R : Nat} {A : Option Addr} {cap : Nat} {L : List Tok} {E : Nat} {p : Int} {f : Bool} {x : Int} (h : RC w R A cap L E p f x) (hb : w'.heap[R]? = w.heap[R]?) : RC w' R A cap L E p f x := by
  have hc : ∀ o v, w.cell? ⟨R, o, none⟩ = some v → w'.cell? ⟨R, o, none⟩ = some v := fun o v hv => by rw [World.cell?_of_block (w := w) (a := ⟨R, o, none⟩) hb]; exact hv
  have hf : ∀ o, w.frozen? ⟨R, o, none⟩ = false → w'.frozen? ⟨R, o, none⟩ = false := fun o hv => by rw [World.frozen?_of_block (w := w) (a := ⟨R, o, none⟩) hb]; exact hv
  exact ⟨hc _ _ h.c0, hc _ _ h.c1, hc _ _ h.c2, hc _ _ h.c3, hc _ _ h.c4, hf _ h.f1, hf _ h.f3, hf _ h.f4⟩
theorem RS.lt {w : World} {R : Nat} {A : Option Addr} {cap : Nat} {L : List Tok} {E : Nat} {st : St} (h : RS w R A cap L E st) : R < w.heap.size := by
  cases st with
  | run p => obtain ⟨_, _, h⟩ := h; exact h.lt
  | out x => obtain ⟨_, h⟩ := h; exact h.lt
theorem RS.sameR {w w' : World} {R : Nat} {A : Option Addr} {cap : Nat} {L : List Tok} {E : Nat} {st : St} (h : RS w R A cap L E st) (hb : w'.heap[R]? = w.heap[R]?) : RS w' R A cap L E st := by
  cases st with
  | run p => obtain ⟨a, x, h⟩ := h; exact ⟨a, x, h.sameR hb⟩
  | out x => obtain ⟨p, h⟩ := h; exact ⟨p, h.sameR hb⟩
theorem RS.far {w : World} {R : Nat} {A : Option Addr} {cap : Nat} {L : List Tok} {E : Nat} {st : St} (h : RS w R A cap L E st) {g : Nat} (hg : g ≠ R) (o : Nat) (u : Value) : RS (w.setCell ⟨g, o, none⟩ u) R A cap L E st :=
  h.sameR (Below.heap_setCell w ⟨g, o, none⟩ u R fun e => hg e.symm)
theorem RS.alloc {w : World} {R : Nat} {A : Option Addr} {cap : Nat} {L : List Tok} {E : Nat} {st : St} (h : RS w R A cap L E st) (ob : Obj) : RS (w.alloc ob) R A cap L E st :=
  h.sameR (Below.heap_alloc w ob R h.lt)
theorem RS.drew {w : World} {R : Nat} {A : Option Addr} {cap : Nat} {L : List Tok} {E : Nat} {st : St} (h : RS w R A cap L E st) : RS w.drew R A cap L E st := h.sameR rfl
theorem RS.drewN {w : World} {R : Nat} {A : Option Addr} {cap : Nat} {L : List Tok} {E : Nat} {st : St} (h : RS w R A cap L E st) (n : Nat) : RS (w.drewN n) R A cap L E st := h.sameR rfl

set_option maxHeartbeats 1000000 in
set_option maxRecDepth 10000 in
theorem roperand_out {R : Nat} {A : Option Addr} {cap : Nat} {L : List Tok} {E : Nat} (hL : L.length ≤ 1000) : OutC R A cap L E 69 #[.pointer (some ⟨R, 0, none⟩)] := by
  intro w x hr hk
  have HR := Lib.hid (And.intro hr hk)
  clear hr hk
  have hlt : R < w.heap.size := by obtain ⟨p, h⟩ := HR.out.1; exact h.lt
  have nR : w.heap.size ≠ R := by omega
  have b0 : Below w.heap.size w (w.alloc (.cells #[.int .i64 0, .int .i64 0, .int .i64 0, .int .i64 0, .int .i64 0, .int .i64 0, .string ⟨#[]⟩, .slice none 0 0] 30)) := (Below.refl _ _).alloc (Nat.le_refl _) _
  have H1 := Lib.hid (rmark_any (m := 0) ⟨#[40]⟩ hL (by omega) (HR.out.1.below b0) (HR.out.2.but (But.of_below b0)))
  clear b0
  go_enter Tryz.func69, Tryz.ntmps69
  go_wp2_with fail
  refine H1.out.mono ?_; rintro e w1 ⟨rfl, b1⟩
  have k10 := keep_fresh b1 0 (v := .int .i64 0) rfl
  have k11 := keep_fresh b1 1 (v := .int .i64 0) rfl
  have k12 := keep_fresh b1 2 (v := .int .i64 0) rfl
  have k13 := keep_fresh b1 3 (v := .int .i64 0) rfl
  have k14 := keep_fresh b1 4 (v := .int .i64 0) rfl
  have k15 := keep_fresh b1 5 (v := .int .i64 0) rfl
  have k16 := keep_fresh b1 6 (v := .string ⟨#[]⟩) rfl
  have k17 := keep_fresh b1 7 (v := .slice none 0 0) rfl
  have f10 := fresh_frozen b1 0
  have f11 := fresh_frozen b1 1
  have f12 := fresh_frozen b1 2
  have f13 := fresh_frozen b1 3
  have f14 := fresh_frozen b1 4
  have f15 := fresh_frozen b1 5
  have f16 := fresh_frozen b1 6
  have f17 := fresh_frozen b1 7
  have h1 : Below w.heap.size w w1 := ((Below.refl _ _).alloc (Nat.le_refl _) _).trans (b1.mono (by simp))
  have z1 : w.heap.size < w1.heap.size := by have := b1.size; simp at this; omega
  have RS1 := HR.out.1.below h1
  have HT1 := Lib.hid (HR.out.2.but (But.of_below h1))
  obtain ⟨q, hq⟩ := RS1
  have c3 := hq.c3
  have HQ := Lib.hid hq
  clear b1 hq
  go_wp2_with fail
  go_quiet (fail)
  go_wp2_with fail
  have H2 := Lib.hid fun n => rfail_any (st := .out x) hL ⟨q, HQ.out.below (below_drewN (Below.refl _ _) n)⟩ (HT1.out.but (But.of_below (below_drewN (Below.refl _ _) n)))
  refine (H2.out _).mono ?_; rintro e w2 ⟨rfl, r2, b2⟩
  have HR2 : Hid (RS w2 R A cap L E (.out x)) := Lib.hid r2
  have h2 : But R w w2 := ((But.of_below h1).drewN _).trans b2
  have k20 := b2.cell nR k10
  have k21 := b2.cell nR k11
  have k22 := b2.cell nR k12
  have k23 := b2.cell nR k13
  have k24 := b2.cell nR k14
  have k25 := b2.cell nR k15
  have k26 := b2.cell nR k16
  have k27 := b2.cell nR k17
  have f20 := b2.frozen nR z1 f10
  have f21 := b2.frozen nR z1 f11
  have f22 := b2.frozen nR z1 f12
  have f23 := b2.frozen nR z1 f13
  have f24 := b2.frozen nR z1 f14
  have f25 := b2.frozen nR z1 f15
  have f26 := b2.frozen nR z1 f16
  have f27 := b2.frozen nR z1 f17
  clear r2 b2 k10 f10 k11 f11 k12 f12 k13 f13 k14 f14 k15 f15 k16 f16 k17 f17
  go_wp2_with fail
  exact bodyPost_ret (v := .agg #[.int .i64 0, .int .i64 0, .int .i64 0, .int .i64 0, .int .i64 0, .int .i64 0, .string ⟨#[]⟩, .slice none 0 0]) (by simp [results, Tryz.results69, go_sem, k20, k21, k22, k23, k24, k25, k26, k27]) rfl ⟨⟨0, 0, 0, 0, 0, 0, ⟨#[]⟩, none, 0, 0⟩, rfl, by
    with_reducible repeat' (first | exact HR2.out | refine RS.far ?_ nR _ _), by
    with_reducible repeat' (first | exact h2 | refine But.setN ?_ (Nat.le_refl _) _ _)⟩
theorem zRf {w : World} {R : Nat} {A : Option Addr} {cap : Nat} {L : List Tok} {E : Nat} {st : St} (h : RS w R A cap L E st) {g : Nat} (hg : g ≠ R) (o : Nat) (u : Value) : RS (w.setCell ⟨g, o, none⟩ u) R A cap L E st := h.far hg o u
theorem zRa {w : World} {R : Nat} {A : Option Addr} {cap : Nat} {L : List Tok} {E : Nat} {st : St} (h : RS w R A cap L E st) (ob : Obj) : RS (w.alloc ob) R A cap L E st := h.alloc ob
theorem zRd {w : World} {R : Nat} {A : Option Addr} {cap : Nat} {L : List Tok} {E : Nat} {st : St} (h : RS w R A cap L E st) : RS w.drew R A cap L E st := h.drew
theorem zRn {w : World} {R : Nat} {A : Option Addr} {cap : Nat} {L : List Tok} {E : Nat} {st : St} (h : RS w R A cap L E st) (n : Nat) : RS (w.drewN n) R A cap L E st := h.drewN n
end Go.Proofs.YtahdlijkohmdfaaGreatDoor
namespace Go.Proofs.YtahdlijkohmdfaaGreatDoor
open Go.RowKit

set_option maxHeartbeats 2000000 in
set_option maxRecDepth 10000 in
theorem rprefix_out {R : Nat} {A : Option Addr} {cap : Nat} {L : List Tok} {E : Nat} (hL : L.length ≤ 1000) : OutC R A cap L E 35 #[.pointer (some ⟨R, 0, none⟩)] := by
  intro w x hr hk
  have HR := Lib.hid hr
  have HT := Lib.hid hk
  have hlt : R < w.heap.size := hr.lt
  have nk : w.heap.size ≠ R := by omega
  clear hr hk
  go_enter Tryz.func35, Tryz.ntmps35
  go_wp2_with fail
  refine (rmark_any (R := R) (A := A) (cap := cap) (L := L) (E := E) (m := 0) (st := .out x) ⟨#[45]⟩ hL (by omega) (by (with_reducible repeat' (first | exact HR.out | refine zRf ?_ nk _ _ | refine zRa ?_ _ | refine zRn ?_ _ | refine zRd ?_))) (HT.out.but (by (with_reducible repeat' (first | exact But.refl _ _ | refine zBr ?_ _ _ | refine zBs ?_ (by omega) _ _ | refine zBa ?_ _ | refine zBn ?_ _ | refine zBd ?_))))).mono ?_; rintro e w1 ⟨rfl, b1⟩
  have h1 : But R w w1 := But.trans (by (with_reducible repeat' (first | exact But.refl _ _ | refine zBr ?_ _ _ | refine zBs ?_ (by omega) _ _ | refine zBa ?_ _ | refine zBn ?_ _ | refine zBd ?_))) (But.of_below b1)
  have zk1 : w.heap.size < w1.heap.size := by have := b1.size; first | omega | (simp at this; omega)
  have Hk1 : C8 w1 (w.heap.size) (.int .i64 0) (.int .i64 0) (.int .i64 0) (.int .i64 0) (.int .i64 0) (.int .i64 0) (.string ⟨#[]⟩) (.slice none 0 0) := by refine ⟨?_, ?_, ?_, ?_, ?_, ?_, ?_, ?_⟩ <;> exact (But.of_below b1).cell nk (by simp [go_sem])
  obtain ⟨k10, k11, k12, k13, k14, k15, k16, k17⟩ := Hk1
  have Hkf1 : F8 w1 (w.heap.size) := by refine ⟨?_, ?_, ?_, ?_, ?_, ?_, ?_, ?_⟩ <;> exact (But.of_below b1).frozen nk (by first | omega | (simp; done) | (simp; omega)) (by simp [go_sem])
  obtain ⟨kf10, kf11, kf12, kf13, kf14, kf15, kf16, kf17⟩ := Hkf1
  have y1 : w.heap.size < w1.heap.size := zk1
  have HR1 : Hid (RS w1 R A cap L E (.out x)) := Lib.hid (RS.below (by (with_reducible repeat' (first | exact HR.out | refine zRf ?_ nk _ _ | refine zRa ?_ _ | refine zRn ?_ _ | refine zRd ?_))) b1)
  clear b1
  go_wp2_with fail
  refine (roperand_out (R := R) (A := A) (cap := cap) (L := L) (E := E) hL _ x (by (with_reducible repeat' (first | exact HR1.out | refine zRf ?_ nk _ _ | refine zRa ?_ _ | refine zRn ?_ _ | refine zRd ?_))) (HT.out.but (by (with_reducible repeat' (first | exact h1 | refine zBr ?_ _ _ | refine zBs ?_ (by omega) _ _ | refine zBa ?_ _ | refine zBn ?_ _ | refine zBd ?_))))).mono ?_; rintro e w2 ⟨⟨a0, a1, a2, a3, a4, a5, aw, aA, al, ac⟩, rfl, r2, b2⟩
  have h2 : But R w w2 := But.trans (by (with_reducible repeat' (first | exact h1 | refine zBr ?_ _ _ | refine zBs ?_ (by omega) _ _ | refine zBa ?_ _ | refine zBn ?_ _ | refine zBd ?_))) b2
  have zk2 : w.heap.size < w2.heap.size := by have := b2.size; first | omega | (simp at this; omega)
  have Hk2 := c8_lift (B := w.heap.size) (fun j v hv => b2.cell nk (by with_reducible repeat' (first | exact hv | refine zCs ?_ (by omega) _ _ | refine zCa ?_ _ | refine zCn ?_ _ | refine zCd ?_))) k10 k11 k12 k13 k14 k15 k16 k17
  obtain ⟨k20, k21, k22, k23, k24, k25, k26, k27⟩ := Hk2
  have Hkf2 := f8_lift (B := w.heap.size) (fun j hv => b2.frozen nk (by first | omega | (simp; done) | (simp; omega)) (by with_reducible repeat' (first | exact hv | refine zFs ?_ (by omega) _ _ | refine zFa ?_ (by first | omega | (simp; omega)) _ | refine zFn ?_ _ | refine zFd ?_))) kf10 kf11 kf12 kf13 kf14 kf15 kf16 kf17
  obtain ⟨kf20, kf21, kf22, kf23, kf24, kf25, kf26, kf27⟩ := Hkf2
  have y2 : w.heap.size < w2.heap.size := zk2
  have HR2 : Hid (RS w2 R A cap L E (.out x)) := Lib.hid r2
  clear b2 r2 k10 k11 k12 k13 k14 k15 k16 k17 kf10 kf11 kf12 kf13 kf14 kf15 kf16 kf17 zk1
  dsimp only [V8.val]
  go_wp2_with fail
  exact bodyPost_ret (v := .agg #[.int .i64 a0, .int .i64 a1, .int .i64 a2, .int .i64 a3, .int .i64 a4, .int .i64 a5, .string aw, .slice aA al ac]) (by simp [results, Tryz.results35, go_sem, k20, k21, k22, k23, k24, k25, k26, k27]) rfl ⟨⟨a0, a1, a2, a3, a4, a5, aw, aA, al, ac⟩, rfl, by (with_reducible repeat' (first | exact HR2.out | refine zRf ?_ nk _ _ | refine zRa ?_ _ | refine zRn ?_ _ | refine zRd ?_)), by (with_reducible repeat' (first | exact h2 | refine zBr ?_ _ _ | refine zBs ?_ (by omega) _ _ | refine zBa ?_ _ | refine zBn ?_ _ | refine zBd ?_))⟩
set_option maxHeartbeats 2000000 in
set_option maxRecDepth 10000 in
theorem rline_out4 {R : Nat} {A : Option Addr} {cap : Nat} {L : List Tok} {E : Nat} (hL : L.length ≤ 1000) : OutC R A cap L E 20 #[.pointer (some ⟨R, 0, none⟩), .int .i64 4] := by
  intro w x hr hk
  have HR := Lib.hid hr
  have HT := Lib.hid hk
  have hlt : R < w.heap.size := hr.lt
  have nk : w.heap.size ≠ R := by omega
  clear hr hk
  go_enter Tryz.func20, Tryz.ntmps20
  go_wp2_with fail
  refine (rprefix_out (R := R) (A := A) (cap := cap) (L := L) (E := E) hL _ x (by (with_reducible repeat' (first | exact HR.out | refine zRf ?_ nk _ _ | refine zRa ?_ _ | refine zRn ?_ _ | refine zRd ?_))) (HT.out.but (by (with_reducible repeat' (first | exact But.refl _ _ | refine zBr ?_ _ _ | refine zBs ?_ (by omega) _ _ | refine zBa ?_ _ | refine zBn ?_ _ | refine zBd ?_))))).mono ?_; rintro e w1 ⟨⟨a0, a1, a2, a3, a4, a5, aw, aA, al, ac⟩, rfl, r1, b1⟩
  have h1 : But R w w1 := But.trans (by (with_reducible repeat' (first | exact But.refl _ _ | refine zBr ?_ _ _ | refine zBs ?_ (by omega) _ _ | refine zBa ?_ _ | refine zBn ?_ _ | refine zBd ?_))) b1
  have zk1 : w.heap.size < w1.heap.size := by have := b1.size; first | omega | (simp at this; omega)
  have Hk1 : C8 w1 (w.heap.size) (.int .i64 0) (.int .i64 0) (.int .i64 0) (.int .i64 0) (.int .i64 0) (.int .i64 0) (.string ⟨#[]⟩) (.slice none 0 0) := by refine ⟨?_, ?_, ?_, ?_, ?_, ?_, ?_, ?_⟩ <;> exact b1.cell nk (by simp [go_sem])
  obtain ⟨k10, k11, k12, k13, k14, k15, k16, k17⟩ := Hk1
  have Hkf1 : F8 w1 (w.heap.size) := by refine ⟨?_, ?_, ?_, ?_, ?_, ?_, ?_, ?_⟩ <;> exact b1.frozen nk (by first | omega | (simp; done) | (simp; omega)) (by simp [go_sem])
  obtain ⟨kf10, kf11, kf12, kf13, kf14, kf15, kf16, kf17⟩ := Hkf1
  have y1 : w.heap.size < w1.heap.size := zk1
  have HR1 : Hid (RS w1 R A cap L E (.out x)) := Lib.hid r1
  clear b1 r1
  dsimp only [V8.val]
  go_wp2_with fail
  exact bodyPost_ret (v := .agg #[.int .i64 a0, .int .i64 a1, .int .i64 a2, .int .i64 a3, .int .i64 a4, .int .i64 a5, .string aw, .slice aA al ac]) (by simp [results, Tryz.results20, go_sem, k10, k11, k12, k13, k14, k15, k16, k17]) rfl ⟨⟨a0, a1, a2, a3, a4, a5, aw, aA, al, ac⟩, rfl, by (with_reducible repeat' (first | exact HR1.out | refine zRf ?_ nk _ _ | refine zRa ?_ _ | refine zRn ?_ _ | refine zRd ?_)), by (with_reducible repeat' (first | exact h1 | refine zBr ?_ _ _ | refine zBs ?_ (by omega) _ _ | refine zBa ?_ _ | refine zBn ?_ _ | refine zBd ?_))⟩
set_option maxHeartbeats 2000000 in
set_option maxRecDepth 10000 in
theorem rline_out3 {R : Nat} {A : Option Addr} {cap : Nat} {L : List Tok} {E : Nat} (hL : L.length ≤ 1000) : OutC R A cap L E 20 #[.pointer (some ⟨R, 0, none⟩), .int .i64 3] := by
  intro w x hr hk
  have HR := Lib.hid hr
  have HT := Lib.hid hk
  have hlt : R < w.heap.size := hr.lt
  have nk : w.heap.size ≠ R := by omega
  clear hr hk
  go_enter Tryz.func20, Tryz.ntmps20
  go_wp2_with fail
  refine (rline_out4 (R := R) (A := A) (cap := cap) (L := L) (E := E) hL _ x (by (with_reducible repeat' (first | exact HR.out | refine zRf ?_ nk _ _ | refine zRa ?_ _ | refine zRn ?_ _ | refine zRd ?_))) (HT.out.but (by (with_reducible repeat' (first | exact But.refl _ _ | refine zBr ?_ _ _ | refine zBs ?_ (by omega) _ _ | refine zBa ?_ _ | refine zBn ?_ _ | refine zBd ?_))))).mono ?_; rintro e w1 ⟨⟨a0, a1, a2, a3, a4, a5, aw, aA, al, ac⟩, rfl, r1, b1⟩
  have h1 : But R w w1 := But.trans (by (with_reducible repeat' (first | exact But.refl _ _ | refine zBr ?_ _ _ | refine zBs ?_ (by omega) _ _ | refine zBa ?_ _ | refine zBn ?_ _ | refine zBd ?_))) b1
  have zk1 : w.heap.size < w1.heap.size := by have := b1.size; first | omega | (simp at this; omega)
  have Hk1 : C8 w1 (w.heap.size) (.int .i64 0) (.int .i64 0) (.int .i64 0) (.int .i64 0) (.int .i64 0) (.int .i64 0) (.string ⟨#[]⟩) (.slice none 0 0) := by refine ⟨?_, ?_, ?_, ?_, ?_, ?_, ?_, ?_⟩ <;> exact b1.cell nk (by simp [go_sem])
  obtain ⟨k10, k11, k12, k13, k14, k15, k16, k17⟩ := Hk1
  have Hkf1 : F8 w1 (w.heap.size) := by refine ⟨?_, ?_, ?_, ?_, ?_, ?_, ?_, ?_⟩ <;> exact b1.frozen nk (by first | omega | (simp; done) | (simp; omega)) (by simp [go_sem])
  obtain ⟨kf10, kf11, kf12, kf13, kf14, kf15, kf16, kf17⟩ := Hkf1
  have y1 : w.heap.size < w1.heap.size := zk1
  have HR1 : Hid (RS w1 R A cap L E (.out x)) := Lib.hid r1
  clear b1 r1
  dsimp only [V8.val]
  go_wp2_with fail
  have no : w1.heap.size ≠ R := by have := h1.size; omega
  go_loopw [6] (fun _ wr => wr = w1.alloc (.cells #[.int .i64 a0, .int .i64 a1, .int .i64 a2, .int .i64 a3, .int .i64 a4, .int .i64 a5, .string aw, .slice aA al ac] 30)) (fun _ _ => 0)
  case atStart => rfl
  case round =>
    subst hrel
    go_wp2_with fail
    refine (rlevel_any (R := R) (A := A) (cap := cap) (L := L) (E := E) (st := .out x) hL (by (with_reducible repeat' (first | exact HR1.out | refine zRf ?_ nk _ _ | refine zRf ?_ no _ _ | refine zRa ?_ _ | refine zRn ?_ _ | refine zRd ?_))) (HT.out.but (by (with_reducible repeat' (first | exact h1 | refine zBr ?_ _ _ | refine zBs ?_ (by omega) _ _ | refine zBa ?_ _ | refine zBn ?_ _ | refine zBd ?_))))).mono ?_; rintro e w2 ⟨rfl, b2⟩
    have h2 : But R w w2 := But.trans (by (with_reducible repeat' (first | exact h1 | refine zBr ?_ _ _ | refine zBs ?_ (by omega) _ _ | refine zBa ?_ _ | refine zBn ?_ _ | refine zBd ?_))) (But.of_below b2)
    have zk2 : w.heap.size < w2.heap.size := by have := b2.size; first | omega | (simp at this; omega)
    have Hk2 := c8_lift (B := w.heap.size) (fun j v hv => (But.of_below b2).cell nk (by with_reducible repeat' (first | exact hv | refine zCs ?_ (by omega) _ _ | refine zCa ?_ _ | refine zCn ?_ _ | refine zCd ?_))) k10 k11 k12 k13 k14 k15 k16 k17
    obtain ⟨k20, k21, k22, k23, k24, k25, k26, k27⟩ := Hk2
    have Hkf2 := f8_lift (B := w.heap.size) (fun j hv => (But.of_below b2).frozen nk (by first | omega | (simp; done) | (simp; omega)) (by with_reducible repeat' (first | exact hv | refine zFs ?_ (by omega) _ _ | refine zFa ?_ (by first | omega | (simp; omega)) _ | refine zFn ?_ _ | refine zFd ?_))) kf10 kf11 kf12 kf13 kf14 kf15 kf16 kf17
    obtain ⟨kf20, kf21, kf22, kf23, kf24, kf25, kf26, kf27⟩ := Hkf2
    have zo2 : w1.heap.size < w2.heap.size := by have := b2.size; first | omega | (simp at this; omega)
    have Ho2 : C8 w2 (w1.heap.size) (.int .i64 a0) (.int .i64 a1) (.int .i64 a2) (.int .i64 a3) (.int .i64 a4) (.int .i64 a5) (.string aw) (.slice aA al ac) := by refine ⟨?_, ?_, ?_, ?_, ?_, ?_, ?_, ?_⟩ <;> exact (But.of_below b2).cell no (by simp [go_sem])
    obtain ⟨o20, o21, o22, o23, o24, o25, o26, o27⟩ := Ho2
    have y2 : w.heap.size < w2.heap.size := zk2
    have HR2 : Hid (RS w2 R A cap L E (.out x)) := Lib.hid (RS.below (by (with_reducible repeat' (first | exact HR1.out | refine zRf ?_ nk _ _ | refine zRf ?_ no _ _ | refine zRa ?_ _ | refine zRn ?_ _ | refine zRd ?_))) b2)
    clear b2 k10 k11 k12 k13 k14 k15 k16 k17 kf10 kf11 kf12 kf13 kf14 kf15 kf16 kf17 zk1
    have d0 : ((levelS L (.out x) : Int) != 3) = true := rfl
    go_wp2_with fail
    exact bodyPost_ret (v := .agg #[.int .i64 a0, .int .i64 a1, .int .i64 a2, .int .i64 a3, .int .i64 a4, .int .i64 a5, .string aw, .slice aA al ac]) (by simp [results, Tryz.results20, go_sem, k20, k21, k22, k23, k24, k25, k26, k27]) rfl ⟨⟨a0, a1, a2, a3, a4, a5, aw, aA, al, ac⟩, rfl, by (with_reducible repeat' (first | exact HR2.out | refine zRf ?_ nk _ _ | refine zRf ?_ no _ _ | refine zRa ?_ _ | refine zRn ?_ _ | refine zRd ?_)), by (with_reducible repeat' (first | exact h2 | refine zBr ?_ _ _ | refine zBs ?_ (by omega) _ _ | refine zBa ?_ _ | refine zBn ?_ _ | refine zBd ?_))⟩
set_option maxHeartbeats 2000000 in
set_option maxRecDepth 10000 in
theorem rline_out2 {R : Nat} {A : Option Addr} {cap : Nat} {L : List Tok} {E : Nat} (hL : L.length ≤ 1000) : OutC R A cap L E 20 #[.pointer (some ⟨R, 0, none⟩), .int .i64 2] := by
  intro w x hr hk
  have HR := Lib.hid hr
  have HT := Lib.hid hk
  have hlt : R < w.heap.size := hr.lt
  have nk : w.heap.size ≠ R := by omega
  clear hr hk
  go_enter Tryz.func20, Tryz.ntmps20
  go_wp2_with fail
  refine (rline_out3 (R := R) (A := A) (cap := cap) (L := L) (E := E) hL _ x (by (with_reducible repeat' (first | exact HR.out | refine zRf ?_ nk _ _ | refine zRa ?_ _ | refine zRn ?_ _ | refine zRd ?_))) (HT.out.but (by (with_reducible repeat' (first | exact But.refl _ _ | refine zBr ?_ _ _ | refine zBs ?_ (by omega) _ _ | refine zBa ?_ _ | refine zBn ?_ _ | refine zBd ?_))))).mono ?_; rintro e w1 ⟨⟨a0, a1, a2, a3, a4, a5, aw, aA, al, ac⟩, rfl, r1, b1⟩
  have h1 : But R w w1 := But.trans (by (with_reducible repeat' (first | exact But.refl _ _ | refine zBr ?_ _ _ | refine zBs ?_ (by omega) _ _ | refine zBa ?_ _ | refine zBn ?_ _ | refine zBd ?_))) b1
  have zk1 : w.heap.size < w1.heap.size := by have := b1.size; first | omega | (simp at this; omega)
  have Hk1 : C8 w1 (w.heap.size) (.int .i64 0) (.int .i64 0) (.int .i64 0) (.int .i64 0) (.int .i64 0) (.int .i64 0) (.string ⟨#[]⟩) (.slice none 0 0) := by refine ⟨?_, ?_, ?_, ?_, ?_, ?_, ?_, ?_⟩ <;> exact b1.cell nk (by simp [go_sem])
  obtain ⟨k10, k11, k12, k13, k14, k15, k16, k17⟩ := Hk1
  have Hkf1 : F8 w1 (w.heap.size) := by refine ⟨?_, ?_, ?_, ?_, ?_, ?_, ?_, ?_⟩ <;> exact b1.frozen nk (by first | omega | (simp; done) | (simp; omega)) (by simp [go_sem])
  obtain ⟨kf10, kf11, kf12, kf13, kf14, kf15, kf16, kf17⟩ := Hkf1
  have y1 : w.heap.size < w1.heap.size := zk1
  have HR1 : Hid (RS w1 R A cap L E (.out x)) := Lib.hid r1
  clear b1 r1
  dsimp only [V8.val]
  go_wp2_with fail
  have no : w1.heap.size ≠ R := by have := h1.size; omega
  go_loopw [6] (fun _ wr => wr = w1.alloc (.cells #[.int .i64 a0, .int .i64 a1, .int .i64 a2, .int .i64 a3, .int .i64 a4, .int .i64 a5, .string aw, .slice aA al ac] 30)) (fun _ _ => 0)
  case atStart => rfl
  case round =>
    subst hrel
    go_wp2_with fail
    refine (rlevel_any (R := R) (A := A) (cap := cap) (L := L) (E := E) (st := .out x) hL (by (with_reducible repeat' (first | exact HR1.out | refine zRf ?_ nk _ _ | refine zRf ?_ no _ _ | refine zRa ?_ _ | refine zRn ?_ _ | refine zRd ?_))) (HT.out.but (by (with_reducible repeat' (first | exact h1 | refine zBr ?_ _ _ | refine zBs ?_ (by omega) _ _ | refine zBa ?_ _ | refine zBn ?_ _ | refine zBd ?_))))).mono ?_; rintro e w2 ⟨rfl, b2⟩
    have h2 : But R w w2 := But.trans (by (with_reducible repeat' (first | exact h1 | refine zBr ?_ _ _ | refine zBs ?_ (by omega) _ _ | refine zBa ?_ _ | refine zBn ?_ _ | refine zBd ?_))) (But.of_below b2)
    have zk2 : w.heap.size < w2.heap.size := by have := b2.size; first | omega | (simp at this; omega)
    have Hk2 := c8_lift (B := w.heap.size) (fun j v hv => (But.of_below b2).cell nk (by with_reducible repeat' (first | exact hv | refine zCs ?_ (by omega) _ _ | refine zCa ?_ _ | refine zCn ?_ _ | refine zCd ?_))) k10 k11 k12 k13 k14 k15 k16 k17
    obtain ⟨k20, k21, k22, k23, k24, k25, k26, k27⟩ := Hk2
    have Hkf2 := f8_lift (B := w.heap.size) (fun j hv => (But.of_below b2).frozen nk (by first | omega | (simp; done) | (simp; omega)) (by with_reducible repeat' (first | exact hv | refine zFs ?_ (by omega) _ _ | refine zFa ?_ (by first | omega | (simp; omega)) _ | refine zFn ?_ _ | refine zFd ?_))) kf10 kf11 kf12 kf13 kf14 kf15 kf16 kf17
    obtain ⟨kf20, kf21, kf22, kf23, kf24, kf25, kf26, kf27⟩ := Hkf2
    have zo2 : w1.heap.size < w2.heap.size := by have := b2.size; first | omega | (simp at this; omega)
    have Ho2 : C8 w2 (w1.heap.size) (.int .i64 a0) (.int .i64 a1) (.int .i64 a2) (.int .i64 a3) (.int .i64 a4) (.int .i64 a5) (.string aw) (.slice aA al ac) := by refine ⟨?_, ?_, ?_, ?_, ?_, ?_, ?_, ?_⟩ <;> exact (But.of_below b2).cell no (by simp [go_sem])
    obtain ⟨o20, o21, o22, o23, o24, o25, o26, o27⟩ := Ho2
    have y2 : w.heap.size < w2.heap.size := zk2
    have HR2 : Hid (RS w2 R A cap L E (.out x)) := Lib.hid (RS.below (by (with_reducible repeat' (first | exact HR1.out | refine zRf ?_ nk _ _ | refine zRf ?_ no _ _ | refine zRa ?_ _ | refine zRn ?_ _ | refine zRd ?_))) b2)
    clear b2 k10 k11 k12 k13 k14 k15 k16 k17 kf10 kf11 kf12 kf13 kf14 kf15 kf16 kf17 zk1
    have d0 : ((levelS L (.out x) : Int) != 2) = true := rfl
    go_wp2_with fail
    exact bodyPost_ret (v := .agg #[.int .i64 a0, .int .i64 a1, .int .i64 a2, .int .i64 a3, .int .i64 a4, .int .i64 a5, .string aw, .slice aA al ac]) (by simp [results, Tryz.results20, go_sem, k20, k21, k22, k23, k24, k25, k26, k27]) rfl ⟨⟨a0, a1, a2, a3, a4, a5, aw, aA, al, ac⟩, rfl, by (with_reducible repeat' (first | exact HR2.out | refine zRf ?_ nk _ _ | refine zRf ?_ no _ _ | refine zRa ?_ _ | refine zRn ?_ _ | refine zRd ?_)), by (with_reducible repeat' (first | exact h2 | refine zBr ?_ _ _ | refine zBs ?_ (by omega) _ _ | refine zBa ?_ _ | refine zBn ?_ _ | refine zBd ?_))⟩
set_option maxHeartbeats 2000000 in
set_option maxRecDepth 10000 in
theorem rline_out1 {R : Nat} {A : Option Addr} {cap : Nat} {L : List Tok} {E : Nat} (hL : L.length ≤ 1000) : OutC R A cap L E 20 #[.pointer (some ⟨R, 0, none⟩), .int .i64 1] := by
  intro w x hr hk
  have HR := Lib.hid hr
  have HT := Lib.hid hk
  have hlt : R < w.heap.size := hr.lt
  have nk : w.heap.size ≠ R := by omega
  clear hr hk
  go_enter Tryz.func20, Tryz.ntmps20
  go_wp2_with fail
  refine (rline_out2 (R := R) (A := A) (cap := cap) (L := L) (E := E) hL _ x (by (with_reducible repeat' (first | exact HR.out | refine zRf ?_ nk _ _ | refine zRa ?_ _ | refine zRn ?_ _ | refine zRd ?_))) (HT.out.but (by (with_reducible repeat' (first | exact But.refl _ _ | refine zBr ?_ _ _ | refine zBs ?_ (by omega) _ _ | refine zBa ?_ _ | refine zBn ?_ _ | refine zBd ?_))))).mono ?_; rintro e w1 ⟨⟨a0, a1, a2, a3, a4, a5, aw, aA, al, ac⟩, rfl, r1, b1⟩
  have h1 : But R w w1 := But.trans (by (with_reducible repeat' (first | exact But.refl _ _ | refine zBr ?_ _ _ | refine zBs ?_ (by omega) _ _ | refine zBa ?_ _ | refine zBn ?_ _ | refine zBd ?_))) b1
  have zk1 : w.heap.size < w1.heap.size := by have := b1.size; first | omega | (simp at this; omega)
  have Hk1 : C8 w1 (w.heap.size) (.int .i64 0) (.int .i64 0) (.int .i64 0) (.int .i64 0) (.int .i64 0) (.int .i64 0) (.string ⟨#[]⟩) (.slice none 0 0) := by refine ⟨?_, ?_, ?_, ?_, ?_, ?_, ?_, ?_⟩ <;> exact b1.cell nk (by simp [go_sem])
  obtain ⟨k10, k11, k12, k13, k14, k15, k16, k17⟩ := Hk1
  have Hkf1 : F8 w1 (w.heap.size) := by refine ⟨?_, ?_, ?_, ?_, ?_, ?_, ?_, ?_⟩ <;> exact b1.frozen nk (by first | omega | (simp; done) | (simp; omega)) (by simp [go_sem])
  obtain ⟨kf10, kf11, kf12, kf13, kf14, kf15, kf16, kf17⟩ := Hkf1
  have y1 : w.heap.size < w1.heap.size := zk1
  have HR1 : Hid (RS w1 R A cap L E (.out x)) := Lib.hid r1
  clear b1 r1
  dsimp only [V8.val]
  go_wp2_with fail
  have no : w1.heap.size ≠ R := by have := h1.size; omega
  go_loopw [6] (fun _ wr => wr = w1.alloc (.cells #[.int .i64 a0, .int .i64 a1, .int .i64 a2, .int .i64 a3, .int .i64 a4, .int .i64 a5, .string aw, .slice aA al ac] 30)) (fun _ _ => 0)
  case atStart => rfl
  case round =>
    subst hrel
    go_wp2_with fail
    refine (rlevel_any (R := R) (A := A) (cap := cap) (L := L) (E := E) (st := .out x) hL (by (with_reducible repeat' (first | exact HR1.out | refine zRf ?_ nk _ _ | refine zRf ?_ no _ _ | refine zRa ?_ _ | refine zRn ?_ _ | refine zRd ?_))) (HT.out.but (by (with_reducible repeat' (first | exact h1 | refine zBr ?_ _ _ | refine zBs ?_ (by omega) _ _ | refine zBa ?_ _ | refine zBn ?_ _ | refine zBd ?_))))).mono ?_; rintro e w2 ⟨rfl, b2⟩
    have h2 : But R w w2 := But.trans (by (with_reducible repeat' (first | exact h1 | refine zBr ?_ _ _ | refine zBs ?_ (by omega) _ _ | refine zBa ?_ _ | refine zBn ?_ _ | refine zBd ?_))) (But.of_below b2)
    have zk2 : w.heap.size < w2.heap.size := by have := b2.size; first | omega | (simp at this; omega)
    have Hk2 := c8_lift (B := w.heap.size) (fun j v hv => (But.of_below b2).cell nk (by with_reducible repeat' (first | exact hv | refine zCs ?_ (by omega) _ _ | refine zCa ?_ _ | refine zCn ?_ _ | refine zCd ?_))) k10 k11 k12 k13 k14 k15 k16 k17
    obtain ⟨k20, k21, k22, k23, k24, k25, k26, k27⟩ := Hk2
    have Hkf2 := f8_lift (B := w.heap.size) (fun j hv => (But.of_below b2).frozen nk (by first | omega | (simp; done) | (simp; omega)) (by with_reducible repeat' (first | exact hv | refine zFs ?_ (by omega) _ _ | refine zFa ?_ (by first | omega | (simp; omega)) _ | refine zFn ?_ _ | refine zFd ?_))) kf10 kf11 kf12 kf13 kf14 kf15 kf16 kf17
    obtain ⟨kf20, kf21, kf22, kf23, kf24, kf25, kf26, kf27⟩ := Hkf2
    have zo2 : w1.heap.size < w2.heap.size := by have := b2.size; first | omega | (simp at this; omega)
    have Ho2 : C8 w2 (w1.heap.size) (.int .i64 a0) (.int .i64 a1) (.int .i64 a2) (.int .i64 a3) (.int .i64 a4) (.int .i64 a5) (.string aw) (.slice aA al ac) := by refine ⟨?_, ?_, ?_, ?_, ?_, ?_, ?_, ?_⟩ <;> exact (But.of_below b2).cell no (by simp [go_sem])
    obtain ⟨o20, o21, o22, o23, o24, o25, o26, o27⟩ := Ho2
    have y2 : w.heap.size < w2.heap.size := zk2
    have HR2 : Hid (RS w2 R A cap L E (.out x)) := Lib.hid (RS.below (by (with_reducible repeat' (first | exact HR1.out | refine zRf ?_ nk _ _ | refine zRf ?_ no _ _ | refine zRa ?_ _ | refine zRn ?_ _ | refine zRd ?_))) b2)
    clear b2 k10 k11 k12 k13 k14 k15 k16 k17 kf10 kf11 kf12 kf13 kf14 kf15 kf16 kf17 zk1
    have d0 : ((levelS L (.out x) : Int) != 1) = true := rfl
    go_wp2_with fail
    exact bodyPost_ret (v := .agg #[.int .i64 a0, .int .i64 a1, .int .i64 a2, .int .i64 a3, .int .i64 a4, .int .i64 a5, .string aw, .slice aA al ac]) (by simp [results, Tryz.results20, go_sem, k20, k21, k22, k23, k24, k25, k26, k27]) rfl ⟨⟨a0, a1, a2, a3, a4, a5, aw, aA, al, ac⟩, rfl, by (with_reducible repeat' (first | exact HR2.out | refine zRf ?_ nk _ _ | refine zRf ?_ no _ _ | refine zRa ?_ _ | refine zRn ?_ _ | refine zRd ?_)), by (with_reducible repeat' (first | exact h2 | refine zBr ?_ _ _ | refine zBs ?_ (by omega) _ _ | refine zBa ?_ _ | refine zBn ?_ _ | refine zBd ?_))⟩
set_option maxHeartbeats 2000000 in
set_option maxRecDepth 10000 in
theorem ritem_out_false {R : Nat} {A : Option Addr} {cap : Nat} {L : List Tok} {E : Nat} (hL : L.length ≤ 1000) : OutC R A cap L E 89 #[.pointer (some ⟨R, 0, none⟩), .bool false] := by
  intro w x hr hk
  have HR := Lib.hid hr
  have HT := Lib.hid hk
  have hlt : R < w.heap.size := hr.lt
  have nk : w.heap.size ≠ R := by omega
  clear hr hk
  go_enter Tryz.func89, Tryz.ntmps89
  go_wp2_with fail
  refine (rend_any (R := R) (A := A) (cap := cap) (L := L) (E := E) (st := .out x) hL (by (with_reducible repeat' (first | exact HR.out | refine zRf ?_ nk _ _ | refine zRa ?_ _ | refine zRn ?_ _ | refine zRd ?_))) (HT.out.but (by (with_reducible repeat' (first | exact But.refl _ _ | refine zBr ?_ _ _ | refine zBs ?_ (by omega) _ _ | refine zBa ?_ _ | refine zBn ?_ _ | refine zBd ?_))))).mono ?_; rintro e w1 ⟨rfl, b1⟩
  have h1 : But R w w1 := But.trans (by (with_reducible repeat' (first | exact But.refl _ _ | refine zBr ?_ _ _ | refine zBs ?_ (by omega) _ _ | refine zBa ?_ _ | refine zBn ?_ _ | refine zBd ?_))) (But.of_below b1)
  have zk1 : w.heap.size < w1.heap.size := by have := b1.size; first | omega | (simp at this; omega)
  have Hk1 : C8 w1 (w.heap.size) (.int .i64 0) (.int .i64 0) (.int .i64 0) (.int .i64 0) (.int .i64 0) (.int .i64 0) (.string ⟨#[]⟩) (.slice none 0 0) := by refine ⟨?_, ?_, ?_, ?_, ?_, ?_, ?_, ?_⟩ <;> exact (But.of_below b1).cell nk (by simp [go_sem])
  obtain ⟨k10, k11, k12, k13, k14, k15, k16, k17⟩ := Hk1
  have Hkf1 : F8 w1 (w.heap.size) := by refine ⟨?_, ?_, ?_, ?_, ?_, ?_, ?_, ?_⟩ <;> exact (But.of_below b1).frozen nk (by first | omega | (simp; done) | (simp; omega)) (by simp [go_sem])
  obtain ⟨kf10, kf11, kf12, kf13, kf14, kf15, kf16, kf17⟩ := Hkf1
  have y1 : w.heap.size < w1.heap.size := zk1
  have HR1 : Hid (RS w1 R A cap L E (.out x)) := Lib.hid (RS.below (by (with_reducible repeat' (first | exact HR.out | refine zRf ?_ nk _ _ | refine zRa ?_ _ | refine zRn ?_ _ | refine zRd ?_))) b1)
  clear b1
  go_wp2_with fail
  refine (rmark_any (R := R) (A := A) (cap := cap) (L := L) (E := E) (m := 1) (st := .out x) ⟨#[58]⟩ hL (by omega) (by (with_reducible repeat' (first | exact HR1.out | refine zRf ?_ nk _ _ | refine zRa ?_ _ | refine zRn ?_ _ | refine zRd ?_))) (HT.out.but (by (with_reducible repeat' (first | exact h1 | refine zBr ?_ _ _ | refine zBs ?_ (by omega) _ _ | refine zBa ?_ _ | refine zBn ?_ _ | refine zBd ?_))))).mono ?_; rintro e w2 ⟨rfl, b2⟩
  have h2 : But R w w2 := But.trans (by (with_reducible repeat' (first | exact h1 | refine zBr ?_ _ _ | refine zBs ?_ (by omega) _ _ | refine zBa ?_ _ | refine zBn ?_ _ | refine zBd ?_))) (But.of_below b2)
  have zk2 : w.heap.size < w2.heap.size := by have := b2.size; first | omega | (simp at this; omega)
  have Hk2 := c8_lift (B := w.heap.size) (fun j v hv => (But.of_below b2).cell nk (by with_reducible repeat' (first | exact hv | refine zCs ?_ (by omega) _ _ | refine zCa ?_ _ | refine zCn ?_ _ | refine zCd ?_))) k10 k11 k12 k13 k14 k15 k16 k17
  obtain ⟨k20, k21, k22, k23, k24, k25, k26, k27⟩ := Hk2
  have Hkf2 := f8_lift (B := w.heap.size) (fun j hv => (But.of_below b2).frozen nk (by first | omega | (simp; done) | (simp; omega)) (by with_reducible repeat' (first | exact hv | refine zFs ?_ (by omega) _ _ | refine zFa ?_ (by first | omega | (simp; omega)) _ | refine zFn ?_ _ | refine zFd ?_))) kf10 kf11 kf12 kf13 kf14 kf15 kf16 kf17
  obtain ⟨kf20, kf21, kf22, kf23, kf24, kf25, kf26, kf27⟩ := Hkf2
  have y2 : w.heap.size < w2.heap.size := zk2
  have HR2 : Hid (RS w2 R A cap L E (.out x)) := Lib.hid (RS.below (by (with_reducible repeat' (first | exact HR1.out | refine zRf ?_ nk _ _ | refine zRa ?_ _ | refine zRn ?_ _ | refine zRd ?_))) b2)
  clear b2 k10 k11 k12 k13 k14 k15 k16 k17 kf10 kf11 kf12 kf13 kf14 kf15 kf16 kf17 zk1
  have e0 : endS L (.out x) = false := rfl
  have e1 : markR L 1 [58] (.out x) = false := rfl
  go_wp2_with fail
  refine (rline_out1 (R := R) (A := A) (cap := cap) (L := L) (E := E) hL _ x (by (with_reducible repeat' (first | exact HR2.out | refine zRf ?_ nk _ _ | refine zRa ?_ _ | refine zRn ?_ _ | refine zRd ?_))) (HT.out.but (by (with_reducible repeat' (first | exact h2 | refine zBr ?_ _ _ | refine zBs ?_ (by omega) _ _ | refine zBa ?_ _ | refine zBn ?_ _ | refine zBd ?_))))).mono ?_; rintro e w3 ⟨⟨a0, a1, a2, a3, a4, a5, aw, aA, al, ac⟩, rfl, r3, b3⟩
  have h3 : But R w w3 := But.trans (by (with_reducible repeat' (first | exact h2 | refine zBr ?_ _ _ | refine zBs ?_ (by omega) _ _ | refine zBa ?_ _ | refine zBn ?_ _ | refine zBd ?_))) b3
  have zk3 : w.heap.size < w3.heap.size := by have := b3.size; first | omega | (simp at this; omega)
  have Hk3 := c8_lift (B := w.heap.size) (fun j v hv => b3.cell nk (by with_reducible repeat' (first | exact hv | refine zCs ?_ (by omega) _ _ | refine zCa ?_ _ | refine zCn ?_ _ | refine zCd ?_))) k20 k21 k22 k23 k24 k25 k26 k27
  obtain ⟨k30, k31, k32, k33, k34, k35, k36, k37⟩ := Hk3
  have Hkf3 := f8_lift (B := w.heap.size) (fun j hv => b3.frozen nk (by first | omega | (simp; done) | (simp; omega)) (by with_reducible repeat' (first | exact hv | refine zFs ?_ (by omega) _ _ | refine zFa ?_ (by first | omega | (simp; omega)) _ | refine zFn ?_ _ | refine zFd ?_))) kf20 kf21 kf22 kf23 kf24 kf25 kf26 kf27
  obtain ⟨kf30, kf31, kf32, kf33, kf34, kf35, kf36, kf37⟩ := Hkf3
  have y3 : w.heap.size < w3.heap.size := zk3
  have HR3 : Hid (RS w3 R A cap L E (.out x)) := Lib.hid r3
  clear b3 r3 k20 k21 k22 k23 k24 k25 k26 k27 kf20 kf21 kf22 kf23 kf24 kf25 kf26 kf27 zk2
  dsimp only [V8.val]
  go_wp2_with fail
  exact bodyPost_ret (v := .agg #[.int .i64 a0, .int .i64 a1, .int .i64 a2, .int .i64 a3, .int .i64 a4, .int .i64 a5, .string aw, .slice aA al ac]) (by simp [results, Tryz.results89, go_sem, k30, k31, k32, k33, k34, k35, k36, k37]) rfl ⟨⟨a0, a1, a2, a3, a4, a5, aw, aA, al, ac⟩, rfl, by (with_reducible repeat' (first | exact HR3.out | refine zRf ?_ nk _ _ | refine zRa ?_ _ | refine zRn ?_ _ | refine zRd ?_)), by (with_reducible repeat' (first | exact h3 | refine zBr ?_ _ _ | refine zBs ?_ (by omega) _ _ | refine zBa ?_ _ | refine zBn ?_ _ | refine zBd ?_))⟩
set_option maxHeartbeats 2000000 in
set_option maxRecDepth 10000 in
theorem ritem_out_true {R : Nat} {A : Option Addr} {cap : Nat} {L : List Tok} {E : Nat} (hL : L.length ≤ 1000) : OutC R A cap L E 89 #[.pointer (some ⟨R, 0, none⟩), .bool true] := by
  intro w x hr hk
  have HR := Lib.hid hr
  have HT := Lib.hid hk
  have hlt : R < w.heap.size := hr.lt
  have nk : w.heap.size ≠ R := by omega
  clear hr hk
  go_enter Tryz.func89, Tryz.ntmps89
  go_wp2_with fail
  refine (rend_any (R := R) (A := A) (cap := cap) (L := L) (E := E) (st := .out x) hL (by (with_reducible repeat' (first | exact HR.out | refine zRf ?_ nk _ _ | refine zRa ?_ _ | refine zRn ?_ _ | refine zRd ?_))) (HT.out.but (by (with_reducible repeat' (first | exact But.refl _ _ | refine zBr ?_ _ _ | refine zBs ?_ (by omega) _ _ | refine zBa ?_ _ | refine zBn ?_ _ | refine zBd ?_))))).mono ?_; rintro e w1 ⟨rfl, b1⟩
  have h1 : But R w w1 := But.trans (by (with_reducible repeat' (first | exact But.refl _ _ | refine zBr ?_ _ _ | refine zBs ?_ (by omega) _ _ | refine zBa ?_ _ | refine zBn ?_ _ | refine zBd ?_))) (But.of_below b1)
  have zk1 : w.heap.size < w1.heap.size := by have := b1.size; first | omega | (simp at this; omega)
  have Hk1 : C8 w1 (w.heap.size) (.int .i64 0) (.int .i64 0) (.int .i64 0) (.int .i64 0) (.int .i64 0) (.int .i64 0) (.string ⟨#[]⟩) (.slice none 0 0) := by refine ⟨?_, ?_, ?_, ?_, ?_, ?_, ?_, ?_⟩ <;> exact (But.of_below b1).cell nk (by simp [go_sem])
  obtain ⟨k10, k11, k12, k13, k14, k15, k16, k17⟩ := Hk1
  have Hkf1 : F8 w1 (w.heap.size) := by refine ⟨?_, ?_, ?_, ?_, ?_, ?_, ?_, ?_⟩ <;> exact (But.of_below b1).frozen nk (by first | omega | (simp; done) | (simp; omega)) (by simp [go_sem])
  obtain ⟨kf10, kf11, kf12, kf13, kf14, kf15, kf16, kf17⟩ := Hkf1
  have y1 : w.heap.size < w1.heap.size := zk1
  have HR1 : Hid (RS w1 R A cap L E (.out x)) := Lib.hid (RS.below (by (with_reducible repeat' (first | exact HR.out | refine zRf ?_ nk _ _ | refine zRa ?_ _ | refine zRn ?_ _ | refine zRd ?_))) b1)
  clear b1
  go_wp2_with fail
  refine (rmark_any (R := R) (A := A) (cap := cap) (L := L) (E := E) (m := 1) (st := .out x) ⟨#[58]⟩ hL (by omega) (by (with_reducible repeat' (first | exact HR1.out | refine zRf ?_ nk _ _ | refine zRa ?_ _ | refine zRn ?_ _ | refine zRd ?_))) (HT.out.but (by (with_reducible repeat' (first | exact h1 | refine zBr ?_ _ _ | refine zBs ?_ (by omega) _ _ | refine zBa ?_ _ | refine zBn ?_ _ | refine zBd ?_))))).mono ?_; rintro e w2 ⟨rfl, b2⟩
  have h2 : But R w w2 := But.trans (by (with_reducible repeat' (first | exact h1 | refine zBr ?_ _ _ | refine zBs ?_ (by omega) _ _ | refine zBa ?_ _ | refine zBn ?_ _ | refine zBd ?_))) (But.of_below b2)
  have zk2 : w.heap.size < w2.heap.size := by have := b2.size; first | omega | (simp at this; omega)
  have Hk2 := c8_lift (B := w.heap.size) (fun j v hv => (But.of_below b2).cell nk (by with_reducible repeat' (first | exact hv | refine zCs ?_ (by omega) _ _ | refine zCa ?_ _ | refine zCn ?_ _ | refine zCd ?_))) k10 k11 k12 k13 k14 k15 k16 k17
  obtain ⟨k20, k21, k22, k23, k24, k25, k26, k27⟩ := Hk2
  have Hkf2 := f8_lift (B := w.heap.size) (fun j hv => (But.of_below b2).frozen nk (by first | omega | (simp; done) | (simp; omega)) (by with_reducible repeat' (first | exact hv | refine zFs ?_ (by omega) _ _ | refine zFa ?_ (by first | omega | (simp; omega)) _ | refine zFn ?_ _ | refine zFd ?_))) kf10 kf11 kf12 kf13 kf14 kf15 kf16 kf17
  obtain ⟨kf20, kf21, kf22, kf23, kf24, kf25, kf26, kf27⟩ := Hkf2
  have y2 : w.heap.size < w2.heap.size := zk2
  have HR2 : Hid (RS w2 R A cap L E (.out x)) := Lib.hid (RS.below (by (with_reducible repeat' (first | exact HR1.out | refine zRf ?_ nk _ _ | refine zRa ?_ _ | refine zRn ?_ _ | refine zRd ?_))) b2)
  clear b2 k10 k11 k12 k13 k14 k15 k16 k17 kf10 kf11 kf12 kf13 kf14 kf15 kf16 kf17 zk1
  have e0 : endS L (.out x) = false := rfl
  have e1 : markR L 1 [58] (.out x) = false := rfl
  go_wp2_with fail
  refine (rfail_any (R := R) (A := A) (cap := cap) (L := L) (E := E) (st := .out x) hL (by (with_reducible repeat' (first | exact HR2.out | refine zRf ?_ nk _ _ | refine zRa ?_ _ | refine zRn ?_ _ | refine zRd ?_))) (HT.out.but (by (with_reducible repeat' (first | exact h2 | refine zBr ?_ _ _ | refine zBs ?_ (by omega) _ _ | refine zBa ?_ _ | refine zBn ?_ _ | refine zBd ?_))))).mono ?_; rintro e w3 ⟨rfl, r3, b3⟩
  have h3 : But R w w3 := But.trans (by (with_reducible repeat' (first | exact h2 | refine zBr ?_ _ _ | refine zBs ?_ (by omega) _ _ | refine zBa ?_ _ | refine zBn ?_ _ | refine zBd ?_))) b3
  have zk3 : w.heap.size < w3.heap.size := by have := b3.size; first | omega | (simp at this; omega)
  have Hk3 := c8_lift (B := w.heap.size) (fun j v hv => b3.cell nk (by with_reducible repeat' (first | exact hv | refine zCs ?_ (by omega) _ _ | refine zCa ?_ _ | refine zCn ?_ _ | refine zCd ?_))) k20 k21 k22 k23 k24 k25 k26 k27
  obtain ⟨k30, k31, k32, k33, k34, k35, k36, k37⟩ := Hk3
  have Hkf3 := f8_lift (B := w.heap.size) (fun j hv => b3.frozen nk (by first | omega | (simp; done) | (simp; omega)) (by with_reducible repeat' (first | exact hv | refine zFs ?_ (by omega) _ _ | refine zFa ?_ (by first | omega | (simp; omega)) _ | refine zFn ?_ _ | refine zFd ?_))) kf20 kf21 kf22 kf23 kf24 kf25 kf26 kf27
  obtain ⟨kf30, kf31, kf32, kf33, kf34, kf35, kf36, kf37⟩ := Hkf3
  have y3 : w.heap.size < w3.heap.size := zk3
  have HR3 : Hid (RS w3 R A cap L E (.out x)) := Lib.hid r3
  clear b3 r3 k20 k21 k22 k23 k24 k25 k26 k27 kf20 kf21 kf22 kf23 kf24 kf25 kf26 kf27 zk2
  go_wp2_with fail
  exact bodyPost_ret (v := .agg #[.int .i64 0, .int .i64 0, .int .i64 0, .int .i64 0, .int .i64 0, .int .i64 0, .string ⟨#[]⟩, .slice none 0 0]) (by simp [results, Tryz.results89, go_sem, k30, k31, k32, k33, k34, k35, k36, k37]) rfl ⟨⟨0, 0, 0, 0, 0, 0, ⟨#[]⟩, none, 0, 0⟩, rfl, by (with_reducible repeat' (first | exact HR3.out | refine zRf ?_ nk _ _ | refine zRa ?_ _ | refine zRn ?_ _ | refine zRd ?_)), by (with_reducible repeat' (first | exact h3 | refine zBr ?_ _ _ | refine zBs ?_ (by omega) _ _ | refine zBa ?_ _ | refine zBn ?_ _ | refine zBd ?_))⟩
end Go.Proofs.YtahdlijkohmdfaaGreatDoor
