/- Texts joined: AvBp, PsAp, ShN, TrH. -/
import Derived.Test.YteflmfifhmlpiaaDoorMa25
import Derived.Test.YteflmfifhmlpiaaDoorMa13
import Derived.Test.YteflmfifhmlpiaaDoorMa08
import Derived.Test.YteflmfifhmlpiaaDoorMa09
import Derived.Test.YteflmfifhmlpiaaDoorMa23
import Derived.Test.YteflmfifhmlpiaaDoorMa26
import Derived.Test.YteflmfifhmlpiaaDoorMa15
import Derived.Test.YteflmfifhmlpiaaDoorMa19
set_option linter.all false
set_option linter.unusedVariables false
set_option linter.unusedSimpArgs false
namespace Go.Proofs.YteflmfifhmlpiaaDoor
open Go.RowKit

def Here (w : World) (g : Nat) (t : Tr) (A : Option Addr) (ca : Nat) : Prop :=
  w.cell? ⟨g, 0, none⟩ = some (.int .i64 t.kind) ∧ w.cell? ⟨g, 1, none⟩ = some (.int .i64 t.num) ∧ w.cell? ⟨g, 2, none⟩ = some (.int .i64 t.c1) ∧ w.cell? ⟨g, 3, none⟩ = some (.int .i64 t.r1) ∧
  w.cell? ⟨g, 4, none⟩ = some (.int .i64 t.c2) ∧ w.cell? ⟨g, 5, none⟩ = some (.int .i64 t.r2) ∧ w.cell? ⟨g, 6, none⟩ = some (.string ⟨t.word.toArray⟩) ∧ w.cell? ⟨g, 7, none⟩ = some (.slice A t.kids.length ca)
theorem Here.below {w w' : World} {g : Nat} {t : Tr} {A : Option Addr} {ca : Nat} (h : Here w g t A ca) (hb : Below w.heap.size w w') : Here w' g t A ca := by
  obtain ⟨h0, h1, h2, h3, h4, h5, h6, h7⟩ := h
  refine ⟨?_, ?_, ?_, ?_, ?_, ?_, ?_, ?_⟩
  all_goals (rw [hb.cell (Lib.lt_of_cell (by assumption))]; assumption)
theorem Here.new (w : World) (t : Tr) (A : Option Addr) (ca : Nat) : Here (w.alloc (.cells #[.int .i64 t.kind, .int .i64 t.num, .int .i64 t.c1, .int .i64 t.r1, .int .i64 t.c2, .int .i64 t.r2, .string ⟨t.word.toArray⟩, .slice A t.kids.length ca] 29)) w.heap.size t A ca :=
  cells8_of (heap_alloc_new w _)
theorem Here.alloc {w : World} {g : Nat} {t : Tr} {A : Option Addr} {ca : Nat} (h : Here w g t A ca) (ob : Obj) : Here (w.alloc ob) g t A ca := h.below ((Below.refl _ _).alloc (Nat.le_refl _) ob)
theorem belowAlloc {n : Nat} {w w' : World} (h : Below n w w') (hn : n ≤ w'.heap.size) (ob : Obj) : Below n w (w'.alloc ob) := h.alloc hn ob
def zeroT : Obj := .cells #[.int .i64 0, .int .i64 0, .int .i64 0, .int .i64 0, .int .i64 0, .int .i64 0, .string ⟨#[]⟩, .slice none 0 0] 29
end Go.Proofs.YteflmfifhmlpiaaDoor
namespace Go.Proofs.YteflmfifhmlpiaaDoor
open Go.RowKit

def Yes (w : World) (e : Ending) (w' : World) : Prop := e = .returned (.bool true) ∧ Below w.heap.size w w'
def vT (n0 n1 n2 n3 n4 n5 : Int) (z : ByteArray) (A : Option Addr) (l ca : Nat) : Obj := .cells #[.int .i64 n0, .int .i64 n1, .int .i64 n2, .int .i64 n3, .int .i64 n4, .int .i64 n5, .string z, .slice A l ca] 29
def valT (t : Tr) (A : Option Addr) (ca : Nat) : Obj := vT t.kind t.num t.c1 t.r1 t.c2 t.r2 ⟨t.word.toArray⟩ A t.kids.length ca
def Stays (Q : World → Prop) : Prop := ∀ w w', Q w → Below w.heap.size w w' → Q w'
theorem Stays.and {P Q : World → Prop} (hp : Stays P) (hq : Stays Q) : Stays (fun w => P w ∧ Q w) := fun _ _ h hb => ⟨hp _ _ h.1 hb, hq _ _ h.2 hb⟩
theorem stays_here (g : Nat) (t : Tr) (A : Option Addr) (ca : Nat) : Stays (fun w => Here w g t A ca) := fun _ _ h hb => h.below hb
theorem stays_kv (t : Tr) (A : Option Addr) : Stays (fun w => KV w (fun _ => True) t A) := fun _ _ h hb => h.kept (Kept.of_below hb)
theorem stays_at8 (g o : Nat) (t : Tr) (A : Option Addr) (ca : Nat) : Stays (fun w => At8 w g o t A ca) := fun _ _ h hb => h.kept (P := fun _ => True) (Kept.of_below hb) trivial
theorem stays_cell (p : Addr) (v : Value) : Stays (fun w => w.cell? p = some v) := fun _ _ h hb => (hb.cell (Lib.lt_of_cell h)).trans h
theorem Stays.al {Q : World → Prop} (h : Stays Q) {w : World} (hq : Q w) (ob : Obj) : Q (w.alloc ob) := h _ _ hq ((Below.refl _ _).alloc (Nat.le_refl _) ob)
end Go.Proofs.YteflmfifhmlpiaaDoor
namespace Go.Proofs.YteflmfifhmlpiaaDoor
open Go.RowKit

theorem wid_mv (x y : Int) : ∀ {t : Tr}, Wid t → Wid (mvT x y t) := by
  intro t hW
  induction hW with
  | @mk k n c r d s w ks hl hk ih =>
    have hks : ∀ t ∈ mvL x y ks, Wid t := by
      intro t ht
      rw [mvL_map] at ht
      obtain ⟨u, hu, rfl⟩ := List.mem_map.1 ht
      exact ih u hu
    have hlen : (mvL x y ks).length ≤ maxLen := by rw [len_mv]; exact hl
    rw [mvT]
    split
    · split
      · exact .mk hlen hks
      · exact .mk (Nat.zero_le _) fun t h => by cases h
    · exact .mk hlen hks
theorem fit_mv (x y : Int) : ∀ {t : Tr}, Fit t → Fit (mvT x y t) := by
  intro t hF
  induction hF with
  | @mk k n c r d s w ks hn hk ih =>
    have hks : ∀ t ∈ mvL x y ks, Fit t := by
      intro t ht
      rw [mvL_map] at ht
      obtain ⟨u, hu, rfl⟩ := List.mem_map.1 ht
      exact ih u hu
    rw [mvT]
    split
    · split
      · exact .mk hn hks
      · exact .mk (by decide) fun t h => by cases h
    · exact .mk hn hks
structure GT (t : Tr) : Prop where
  wid : Wid t
  fit : Fit t
  cnt : cntT t ≤ 1000000
  deep : deepT t ≤ 1000000000
theorem GT.zero : GT (.mk 0 0 0 0 0 0 [] []) := ⟨.mk (Nat.zero_le _) (fun t h => by cases h), .mk (by decide) (fun t h => by cases h), by decide, by decide⟩
theorem GT.of {t : Tr} (hw : Wid t) (hf : Fit t) (h : fitsB t = true) : GT t := by
  have h1 := (fits_iff.1 h).1
  have h2 := szT_cnt t 400 (by decide) h1
  exact ⟨hw, hf, by omega, Nat.le_trans (fits_deep h) (by decide)⟩
theorem GT.sh {t : Tr} (h : GT t) (x y : Int) : GT (shB (rightP t) x y t) := by
  unfold shB
  cases hr : rightP t with
  | false => rw [if_neg (by decide)]; exact GT.zero
  | true =>
    rw [if_pos rfl]
    obtain ⟨_, _, hm⟩ := (right_iff t).1 hr
    exact ⟨wid_mv x y h.wid, fit_mv x y h.fit, by rw [(cnt_mv x y h.fit hm).1]; exact h.cnt, by rw [deep_mv x y h.fit hm]; exact h.deep⟩
def usV (x y : Int) (t : Tr) : Bool := rightP t && usT x y t
theorem us_is {t : Tr} (hf : Fit t) (x y : Int) : anyH x y (rgs t) (rgs t).length = usV x y t := by
  unfold anyH usV
  rw [List.take_length]
  unfold rgs pts
  cases hr : rightP t with
  | false => rw [if_neg (by decide)]; rfl
  | true =>
    rw [if_pos rfl, us_any x y hf ((right_iff t).1 hr).2.2, List.any_filter, Bool.true_and]
    rfl
theorem rd_is {t : Tr} (hf : Fit t) : rdM t 1024 = rdL t := by
  unfold rdM rdL
  rw [right_same]
  have hk : ∀ j : Nat, mkF t (rgs t).length j = usV (atC (j : Int)) (atR (j : Int)) t := fun j => us_is hf _ _
  cases hr : rightP t with
  | true =>
    rw [if_pos rfl]
    unfold readsTo
    congr 2
    funext j
    rw [hk j]
    unfold usV
    rw [hr, Bool.true_and]
  | false =>
    rw [if_neg (by decide)]
    have : ((List.range 1024).filter fun (j : Nat) => mkF t (rgs t).length j) = [] := by
      rw [List.filter_eq_nil_iff]
      intro j _
      rw [hk j]
      unfold usV
      rw [hr]
      simp
    rw [this]
    rfl
def bdV (t : Tr) : Nat := if rightP t = true then cnK 2 t else 0
def szV (t : Tr) : Nat := if rightP t = true then cntT t else 0
theorem bd_is (t : Tr) : ((pts t).filter fun u => u.kind == 2).length = bdV t := by
  unfold pts bdV
  split
  · exact pt_bads 2 t
  · rfl
theorem sz_is (t : Tr) : ((pts t).filter fun _ => true).length = szV t := by
  unfold pts szV
  split
  · rw [List.filter_eq_self.2 (fun _ _ => rfl), pt_cnt]
  · rfl
mutual
theorem cnK_le (k : Int) : ∀ t, cnK k t ≤ cntT t
  | .mk _ _ _ _ _ _ _ ks => by rw [cnK, cntT]; have := cnKL_le k ks; split <;> omega
theorem cnKL_le (k : Int) : ∀ l, cnKL k l ≤ cntL l
  | [] => by rw [cnKL]; exact Nat.zero_le _
  | t :: ts => by rw [cnKL, cntL]; have := cnK_le k t; have := cnKL_le k ts; omega
end
theorem bdV_le {t : Tr} (h : GT t) : bdV t ≤ 1000000 := by unfold bdV; split; exact Nat.le_trans (cnK_le 2 t) h.cnt; exact Nat.zero_le _
theorem szV_le {t : Tr} (h : GT t) : szV t ≤ 1000000 := by unfold szV; split; exact h.cnt; exact Nat.zero_le _
section
variable {t : Tr} (g : GT t) (w : World) (A : Option Addr) (ca : Nat) (hA : KV w (fun _ => True) t A)
include g hA
theorem tUses (x y : Int) : Calls Tryd.prog 14 #[tv t A ca, .agg #[.int .i64 x, .int .i64 y]] w fun e w' => e = .returned (.bool (usV x y t)) ∧ Below w.heap.size w w' := by
  have h := rUses_any x y t g.wid g.deep w A ca hA
  rw [right_same] at h
  exact h
theorem tReads : Calls Tryd.prog 12 #[tv t A ca] w fun e w' => ∃ v, e = .returned v ∧ w'.ownsRow w.heap.size 24 2 v (rdL t).length (cells2 (rdL t)) ∧ Below w.heap.size w w' := rReads_any t g.wid g.deep w A ca hA
theorem tBads : Calls Tryd.prog 16 #[tv t A ca] w fun e w' => e = .returned (.int .i64 (bdV t : Int)) ∧ Below w.heap.size w w' := by
  have h := rBads_any t g.wid g.deep (Nat.le_trans (cnK_le 2 t) (Nat.le_trans g.cnt (by decide))) w A ca hA
  rw [right_same] at h
  unfold bdV
  cases hr : rightP t <;> (rw [hr] at h; exact h)
theorem tSize : Calls Tryd.prog 18 #[tv t A ca] w fun e w' => e = .returned (.int .i64 (szV t : Int)) ∧ Below w.heap.size w w' := by
  have h := rSize_any t g.wid g.deep (Nat.le_trans g.cnt (by decide)) w A ca hA
  rw [right_same] at h
  unfold szV
  cases hr : rightP t <;> (rw [hr] at h; exact h)
theorem tShift (x y : Int) (hx : B63 x) (hy : B63 y) : Calls Tryd.prog 8 #[tv t A ca, .agg #[.int .i64 x, .int .i64 y]] w fun e w' => (∃ A' cp, e = .returned (.tuple #[tv (shB (rightP t) x y t) A' cp, .int .i64 (erB (rightP t))]) ∧ KV w' (fun b => w.heap.size ≤ b) (shB (rightP t) x y t) A') ∧ Below w.heap.size w w' := by
  have h := rShift_any x y hx hy t g.wid g.cnt g.deep w A ca hA
  rw [right_same] at h
  exact h
variable {B : Nat} (hSB : B ≤ w.heap.size) (hSt : Strs B B w)
include hSB hSt
theorem sUses (x y : Int) : Calls Tryd.prog 13 #[tv t A ca, .agg #[.int .i64 x, .int .i64 y]] w fun e w' => e = .returned (.bool (usV x y t)) ∧ Below w.heap.size w w' := by
  rw [← us_is g.fit]
  exact pUses_any x y g.wid g.cnt w A ca hA hSB hSt
theorem sReads : Calls Tryd.prog 11 #[tv t A ca] w fun e w' => ∃ v, e = .returned v ∧ w'.ownsRow w.heap.size 24 2 v (rdL t).length (cells2 (rdL t)) ∧ Below w.heap.size w w' := by
  rw [← rd_is g.fit]
  exact pReads_any g.wid g.cnt w A ca hA hSB hSt
theorem sBads : Calls Tryd.prog 15 #[tv t A ca] w fun e w' => e = .returned (.int .i64 (bdV t : Int)) ∧ Below w.heap.size w w' := by
  rw [← bd_is]
  exact pBads_any g.wid g.cnt w A ca hA hSB hSt
theorem sSize : Calls Tryd.prog 17 #[tv t A ca] w fun e w' => e = .returned (.int .i64 (szV t : Int)) ∧ Below w.heap.size w w' := by
  rw [← sz_is]
  exact pSize_any g.wid g.cnt w A ca hA hSB hSt
theorem sShift (x y : Int) (hx : B63 x) (hy : B63 y) : Calls Tryd.prog 7 #[tv t A ca, .agg #[.int .i64 x, .int .i64 y]] w fun e w' => (∃ A' cp, e = .returned (.tuple #[tv (shB (rightP t) x y t) A' cp, .int .i64 (erB (rightP t))]) ∧ KV w' (fun b => w.heap.size ≤ b) (shB (rightP t) x y t) A') ∧ Below w.heap.size w w' :=
  pShift_any x y hx hy t g.wid g.cnt w A ca hA hSB hSt
end
end Go.Proofs.YteflmfifhmlpiaaDoor
namespace Go.Proofs.YteflmfifhmlpiaaDoor
open Go.RowKit

def TreeC (R : Nat) (A : Option Addr) (cap : Nat) (L : List Tok) (E : Nat) (F : Nat) (args : Array Value) (f : Nat → Option Res) : Prop :=
  ∀ (w : World) (st : St) (g : Got), RS w R A cap L E st → TK w R A L → goS f st = some g →
    Calls Tryd.prog F args w fun e w' => ∃ x : V8, e = .returned x.val ∧ TV w' (fun b => w.heap.size ≤ b) x g.2 ∧ RS w' R A cap L E g.1 ∧ But R w w'
def OutC (R : Nat) (A : Option Addr) (cap : Nat) (L : List Tok) (E : Nat) (F : Nat) (args : Array Value) : Prop :=
  ∀ (w : World) (x : Nat), RS w R A cap L E (.out x) → TK w R A L →
    Calls Tryd.prog F args w fun e w' => ∃ v : V8, e = .returned v.val ∧ RS w' R A cap L E (.out x) ∧ But R w w'
theorem TreeC.of {R : Nat} {A : Option Addr} {cap : Nat} {L : List Tok} {E : Nat} {F : Nat} {args : Array Value} {f : Nat → Option Res} (ho : OutC R A cap L E F args)
    (h : ∀ (w : World) (p : Nat) (g : Got), RS w R A cap L E (.run p) → TK w R A L → toS (f p) = some g →
      Calls Tryd.prog F args w fun e w' => ∃ x : V8, e = .returned x.val ∧ TV w' (fun b => w.heap.size ≤ b) x g.2 ∧ RS w' R A cap L E g.1 ∧ But R w w') : TreeC R A cap L E F args f := by
  intro w st g hr hk hg
  cases st with
  | out x =>
    obtain rfl : (.out x, none) = g := Option.some.inj hg
    exact (ho w x hr hk).mono fun _ _ ⟨v, he, hs, hb⟩ => ⟨v, he, trivial, hs, hb⟩
  | run p => exact h w p g hr hk hg
theorem TreeC.out {R : Nat} {A : Option Addr} {cap : Nat} {L : List Tok} {E : Nat} {F : Nat} {args : Array Value} {f : Nat → Option Res} (h : TreeC R A cap L E F args f) : OutC R A cap L E F args :=
  fun w x hr hk => (h w (.out x) (.out x, none) hr hk rfl).mono fun _ _ ⟨v, he, _, hs, hb⟩ => ⟨v, he, hs, hb⟩

theorem RC.sameR {w w' : World} {R : Nat} {A : Option Addr} {cap : Nat} {L : List Tok} {E : Nat} {p : Int} {f : Bool} {x : Int} (h : RC w R A cap L E p f x) (hb : w'.heap[R]? = w.heap[R]?) : RC w' R A cap L E p f x := by
  have hc : ∀ o v, w.cell? ⟨R, o, none⟩ = some v → w'.cell? ⟨R, o, none⟩ = some v := fun o v hv => by rw [World.cell?_of_block (w := w) (a := ⟨R, o, none⟩) hb]; exact hv
  have hf : ∀ o, w.frozen? ⟨R, o, none⟩ = false → w'.frozen? ⟨R, o, none⟩ = false := fun o hv => by rw [World.frozen?_of_block (w := w) (a := ⟨R, o, none⟩) hb]; exact hv
  exact ⟨hc _ _ h.c0, hc _ _ h.c1, hc _ _ h.c2, hc _ _ h.c3, hc _ _ h.c4, hf _ h.f1, hf _ h.f3, hf _ h.f4⟩
theorem RS.lt {w : World} {R : Nat} {A : Option Addr} {cap : Nat} {L : List Tok} {E : Nat} {st : St} (h : RS w R A cap L E st) : R < w.heap.size := by
  cases st with
  | run p => obtain ⟨_, _, h⟩ := h; exact h.lt
  | out x => obtain ⟨_, h⟩ := h; exact h.lt
theorem RS.sameR {w w' : World} {R : Nat} {A : Option Addr} {cap : Nat} {L : List Tok} {E : Nat} {st : St} (h : RS w R A cap L E st) (hb : w'.heap[R]? = w.heap[R]?) : RS w' R A cap L E st := by
  cases st with
  | run p => obtain ⟨a, x, h⟩ := h; exact ⟨a, x, h.sameR hb⟩
  | out x => obtain ⟨p, h⟩ := h; exact ⟨p, h.sameR hb⟩
theorem RS.far {w : World} {R : Nat} {A : Option Addr} {cap : Nat} {L : List Tok} {E : Nat} {st : St} (h : RS w R A cap L E st) {g : Nat} (hg : g ≠ R) (o : Nat) (u : Value) : RS (w.setCell ⟨g, o, none⟩ u) R A cap L E st :=
  h.sameR (Below.heap_setCell w ⟨g, o, none⟩ u R fun e => hg e.symm)
theorem RS.alloc {w : World} {R : Nat} {A : Option Addr} {cap : Nat} {L : List Tok} {E : Nat} {st : St} (h : RS w R A cap L E st) (ob : Obj) : RS (w.alloc ob) R A cap L E st :=
  h.sameR (Below.heap_alloc w ob R h.lt)
theorem RS.drew {w : World} {R : Nat} {A : Option Addr} {cap : Nat} {L : List Tok} {E : Nat} {st : St} (h : RS w R A cap L E st) : RS w.drew R A cap L E st := h.sameR rfl
theorem RS.drewN {w : World} {R : Nat} {A : Option Addr} {cap : Nat} {L : List Tok} {E : Nat} {st : St} (h : RS w R A cap L E st) (n : Nat) : RS (w.drewN n) R A cap L E st := h.sameR rfl

set_option maxHeartbeats 1000000 in
set_option maxRecDepth 10000 in
theorem roperand_out {R : Nat} {A : Option Addr} {cap : Nat} {L : List Tok} {E : Nat} (hL : L.length ≤ 1000) : OutC R A cap L E 77 #[.pointer (some ⟨R, 0, none⟩)] := by
  intro w x hr hk
  have HR := Lib.hid (And.intro hr hk)
  clear hr hk
  have hlt : R < w.heap.size := by obtain ⟨p, h⟩ := HR.out.1; exact h.lt
  have nR : w.heap.size ≠ R := by omega
  have b0 : Below w.heap.size w (w.alloc (.cells #[.int .i64 0, .int .i64 0, .int .i64 0, .int .i64 0, .int .i64 0, .int .i64 0, .string ⟨#[]⟩, .slice none 0 0] 29)) := (Below.refl _ _).alloc (Nat.le_refl _) _
  have H1 := Lib.hid (rmark_any (m := 0) ⟨#[40]⟩ hL (by omega) (HR.out.1.below b0) (HR.out.2.but (But.of_below b0)))
  clear b0
  go_enter Tryd.func77, Tryd.ntmps77
  go_wp2_with fail
  refine H1.out.mono ?_; rintro e w1 ⟨rfl, b1⟩
  have k10 := keep_fresh b1 0 (v := .int .i64 0) rfl
  have k11 := keep_fresh b1 1 (v := .int .i64 0) rfl
  have k12 := keep_fresh b1 2 (v := .int .i64 0) rfl
  have k13 := keep_fresh b1 3 (v := .int .i64 0) rfl
  have k14 := keep_fresh b1 4 (v := .int .i64 0) rfl
  have k15 := keep_fresh b1 5 (v := .int .i64 0) rfl
  have k16 := keep_fresh b1 6 (v := .string ⟨#[]⟩) rfl
  have k17 := keep_fresh b1 7 (v := .slice none 0 0) rfl
  have f10 := fresh_frozen b1 0
  have f11 := fresh_frozen b1 1
  have f12 := fresh_frozen b1 2
  have f13 := fresh_frozen b1 3
  have f14 := fresh_frozen b1 4
  have f15 := fresh_frozen b1 5
  have f16 := fresh_frozen b1 6
  have f17 := fresh_frozen b1 7
  have h1 : Below w.heap.size w w1 := ((Below.refl _ _).alloc (Nat.le_refl _) _).trans (b1.mono (by simp))
  have z1 : w.heap.size < w1.heap.size := by have := b1.size; simp at this; omega
  have RS1 := HR.out.1.below h1
  have HT1 := Lib.hid (HR.out.2.but (But.of_below h1))
  obtain ⟨q, hq⟩ := RS1
  have c3 := hq.c3
  have HQ := Lib.hid hq
  clear b1 hq
  go_wp2_with fail
  go_quiet (fail)
  go_wp2_with fail
  have H2 := Lib.hid fun n => rfail_any (st := .out x) hL ⟨q, HQ.out.below (below_drewN (Below.refl _ _) n)⟩ (HT1.out.but (But.of_below (below_drewN (Below.refl _ _) n)))
  refine (H2.out _).mono ?_; rintro e w2 ⟨rfl, r2, b2⟩
  have HR2 : Hid (RS w2 R A cap L E (.out x)) := Lib.hid r2
  have h2 : But R w w2 := ((But.of_below h1).drewN _).trans b2
  have k20 := b2.cell nR k10
  have k21 := b2.cell nR k11
  have k22 := b2.cell nR k12
  have k23 := b2.cell nR k13
  have k24 := b2.cell nR k14
  have k25 := b2.cell nR k15
  have k26 := b2.cell nR k16
  have k27 := b2.cell nR k17
  have f20 := b2.frozen nR z1 f10
  have f21 := b2.frozen nR z1 f11
  have f22 := b2.frozen nR z1 f12
  have f23 := b2.frozen nR z1 f13
  have f24 := b2.frozen nR z1 f14
  have f25 := b2.frozen nR z1 f15
  have f26 := b2.frozen nR z1 f16
  have f27 := b2.frozen nR z1 f17
  clear r2 b2 k10 f10 k11 f11 k12 f12 k13 f13 k14 f14 k15 f15 k16 f16 k17 f17
  go_wp2_with fail
  exact bodyPost_ret (v := .agg #[.int .i64 0, .int .i64 0, .int .i64 0, .int .i64 0, .int .i64 0, .int .i64 0, .string ⟨#[]⟩, .slice none 0 0]) (by simp [results, Tryd.results77, go_sem, k20, k21, k22, k23, k24, k25, k26, k27]) rfl ⟨⟨0, 0, 0, 0, 0, 0, ⟨#[]⟩, none, 0, 0⟩, rfl, by
    with_reducible repeat' (first | exact HR2.out | refine RS.far ?_ nR _ _), by
    with_reducible repeat' (first | exact h2 | refine But.setN ?_ (Nat.le_refl _) _ _)⟩
theorem zRf {w : World} {R : Nat} {A : Option Addr} {cap : Nat} {L : List Tok} {E : Nat} {st : St} (h : RS w R A cap L E st) {g : Nat} (hg : g ≠ R) (o : Nat) (u : Value) : RS (w.setCell ⟨g, o, none⟩ u) R A cap L E st := h.far hg o u
theorem zRa {w : World} {R : Nat} {A : Option Addr} {cap : Nat} {L : List Tok} {E : Nat} {st : St} (h : RS w R A cap L E st) (ob : Obj) : RS (w.alloc ob) R A cap L E st := h.alloc ob
theorem zRd {w : World} {R : Nat} {A : Option Addr} {cap : Nat} {L : List Tok} {E : Nat} {st : St} (h : RS w R A cap L E st) : RS w.drew R A cap L E st := h.drew
theorem zRn {w : World} {R : Nat} {A : Option Addr} {cap : Nat} {L : List Tok} {E : Nat} {st : St} (h : RS w R A cap L E st) (n : Nat) : RS (w.drewN n) R A cap L E st := h.drewN n
end Go.Proofs.YteflmfifhmlpiaaDoor
