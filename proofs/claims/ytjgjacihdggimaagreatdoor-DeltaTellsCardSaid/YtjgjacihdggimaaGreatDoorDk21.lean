/- Texts joined: OaA, NdQ, NdRm, NdS. -/
import Derived.Test.YtjgjacihdggimaaGreatDoorDk20
import Derived.Test.YtjgjacihdggimaaGreatDoorDk15
import Derived.Deep.LoopGhost
import Derived.Test.YtjgjacihdggimaaGreatDoorDk03
set_option linter.all false
namespace Go.Proofs.YtjgjacihdggimaaGreatDoor
open Go.RowKit Go.Maps
def TB (B : Nat) (w : World) : Prop := ∀ w', Below B w w' → TabE w'
theorem TB.on {B : Nat} {w w' : World} (h : TB B w) (hb : Below B w w') : TB B w' := fun w'' h' => h w'' (hb.trans h')
def AP9 (B : Nat) (w : World) (F : Nat → Prop) (a room : Nat) (s : Sh) : Prop :=
  ∃ K ps t A cS bK low, AR w K a room ps t t A cS bK low ∧ LowK t low ∧ FitT t ∧ Eqv t s ∧ (∀ g, Own K a bK A g → F g) ∧ (∀ g, Chg a bK A g → B ≤ g) ∧ B ≤ w.heap.size ∧ TB B w
theorem own_lt {w : World} {K : Nat → Prop} {a room cS bK low : Nat} {ps : List (Option Nat)} {t tm : Sh} {A : Option Addr} (h : AR w K a room ps t tm A cS bK low) {g : Nat} (hg : Own K a bK A g) : g < w.heap.size := by
  rcases hg with e | e
  · exact h.kl g e
  · exact (h.chg e).2
theorem inv_eqv {room : Nat} {s t : Sh} (hi : Inv room s) (h : Eqv t s) (hl : t.length ≤ room) : Inv room t :=
  ⟨fun x y n e1 e2 => hi.one x y n (by rw [← h x]; exact e1) (by rw [← h y]; exact e2), fun x n e r hr => by rw [h.liveE]; exact hi.shut x n (by rw [← h x]; exact e) r hr, hl⟩
theorem Eqv.getNE {s t : Sh} (h : Eqv t s) (x : Int) : getN t x = getN s x := by unfold getN; rw [h x]
theorem Eqv.getEE {s t : Sh} (h : Eqv t s) (x : Int) : getE t x = getE s x := by unfold getE; rw [h.liveE]
theorem chg_below {w w' : World} {K : Nat → Prop} {a room cS bK low B : Nat} {ps : List (Option Nat)} {t tm : Sh} {A : Option Addr} (hC : ∀ g, Chg a bK A g → B ≤ g) (hB : B ≤ w.heap.size) (hb : ButS (Chg a bK A) w w') : Below B w w' :=
  hb.below (fun k hk hc => by have := hC k hc; omega) hB
theorem AP9.kept {B : Nat} {w w' : World} {F : Nat → Prop} {a room : Nat} {s : Sh} (h : AP9 B w F a room s) (hk : Kept w w' F) (hb : Below B w w') : AP9 B w' F a room s := by
  obtain ⟨K, ps, t, A, cS, bK, low, hA, hL, hF, hE, hO, hC, hB, hT⟩ := h
  exact ⟨K, ps, t, A, cS, bK, low, hA.kept ⟨hk.size, fun g hg hl => hk.block g (hO g hg) hl⟩, hL, hF, hE, hO, hC, Nat.le_trans hB hk.size, hT.on hb⟩
theorem AP9.mono {B : Nat} {w : World} {F G : Nat → Prop} {a room : Nat} {s : Sh} (h : AP9 B w F a room s) (hm : ∀ g, F g → g < w.heap.size → G g) : AP9 B w G a room s := by
  obtain ⟨K, ps, t, A, cS, bK, low, hA, hL, hF, hE, hO, hC, hB, hT⟩ := h
  exact ⟨K, ps, t, A, cS, bK, low, hA, hL, hF, hE, fun g hg => hm g (hO g hg) (own_lt hA hg), hC, hB, hT⟩
theorem AP9.wide {B : Nat} {w : World} {F : Nat → Prop} {a room : Nat} {s : Sh} (h : AP9 B w F a room s) : room ≤ 65536 := by
  obtain ⟨K, ps, t, A, cS, bK, low, hA, hL, hF, hE, hO, hC, hB, hT⟩ := h
  exact hA.wide
theorem AP9.fits {B : Nat} {w : World} {F : Nat → Prop} {a room : Nat} {s : Sh} (h : AP9 B w F a room s) : FitT s := by
  obtain ⟨K, ps, t, A, cS, bK, low, hA, hL, hF, hE, hO, hC, hB, hT⟩ := h
  exact fun x n hn => hF x n (by rw [hE x]; exact hn)
def Aft9 (B : Nat) (w : World) (F : Nat → Prop) (a room : Nat) (s : Sh) (w' : World) (F' : Nat → Prop) : Prop := AP9 B w' F' a room s ∧ (∀ g, F' g → F g ∨ w.heap.size ≤ g) ∧ ButS F w w'
theorem a9New {B : Nat} (w : World) (r : Int) (hT : TB B w) (hB : B ≤ w.heap.size) : Calls Tryz.prog 6 #[.int .i64 r] w fun e w' => (0 ≤ r ∧ r ≤ 65536 → ∃ a, e = .returned (.tuple #[.pointer (some ⟨a, 0, none⟩), .int .i64 0]) ∧ AP9 B w' (fun g => w.heap.size ≤ g) a r.toNat []) ∧ (¬ (0 ≤ r ∧ r ≤ 65536) → e = .returned (.tuple #[.pointer none, .int .i64 1])) ∧ Below w.heap.size w w' :=
  (pNew_any w r).mono fun e w' ⟨h1, h2, h3⟩ => by
    refine ⟨fun hr => ?_, h2, h3⟩
    obtain ⟨a, b, he, ha, hb, hA⟩ := h1 hr
    have hch : ∀ g, Chg a b none g → w.heap.size ≤ g := fun g hg => by
      rcases hg with e | e | ⟨o, e⟩
      · omega
      · omega
      · cases e
    exact ⟨a, he, fun _ => False, [], [], none, 0, b, 0, hA, fun i hi => by omega, fun k n hn => by unfold ndAt at hn; split at hn <;> simp at hn, Eqv.refl _, fun g hg => hg.elim (fun e => e.elim) (hch g), fun g hg => Nat.le_trans hB (hch g hg), Nat.le_trans hB h3.size, hT.on (h3.mono hB)⟩
theorem a9Put {B : Nat} {w : World} {F Q : Nat → Prop} {a room : Nat} {s : Sh} (h : AP9 B w F a room s) (hI : Inv room s) (l : List Nd) (Al : Option Addr) (ca : Nat) (hl : RowN w Q Al l) (hQ : ∀ g, Q g → ¬ F g) (hll : l.length ≤ 100000) (hf : ∀ n ∈ l, FitK n) :
    Calls Tryz.prog 51 #[.pointer (some ⟨a, 0, none⟩), .slice Al l.length ca] w fun e w' => ∃ O co, e = .returned (.tuple #[.slice O (putA room s l).2.1.length co, .int .i64 ((putA room s l).2.2 : Int)]) ∧ ∃ F', RowI w' (fun g => w.heap.size ≤ g ∧ ¬ F' g) O (putA room s l).2.1 ∧ Aft9 B w F a room (putA room s l).1 w' F' := by
  obtain ⟨K, ps, t, A, cS, bK, low, hA, hL, hF, hE, hO, hC, hB, hT⟩ := h
  refine (pPut_any hA hL hF (inv_eqv hI hE hA.len) l Q Al ca hl (fun g hg hc => hQ g hg (hO g (.inr hc))) hll hf hT hB hC).mono fun e w' h => ?_
  obtain ⟨O, co, H', he, K', ps', t', A', cS', low', hA', hL', hF', hE', hr, hH, hk, hc, hb⟩ := h
  obtain ⟨e1, e2⟩ := hE.put (room := room) l
  rw [e2] at he hr
  have hbl := chg_below (w := w) (K := K) (room := room) (cS := cS) (low := low) (ps := ps) (t := t) (tm := t) hC hB hb
  refine ⟨O, co, he, Own K' a bK A', hr.mono fun g hg _ => hH g hg, ⟨K', ps', t', A', cS', bK, low', hA', hL', hF', hE'.trans e1, fun g hg => hg, fun g hg => (hc g hg).elim (hC g) (fun e => Nat.le_trans hB e), Nat.le_trans hB hb.size, hT.on hbl⟩, fun g hg => ?_, hb.mono fun g hg => hO g (.inr hg)⟩
  rcases hg with hg | hg
  · exact (hk g hg).imp (fun e => hO g (.inl e)) id
  · exact (hc g hg).imp (fun e => hO g (.inr e)) id
structure Al9 (w : World) (B : Nat) (F : Nat → Prop) (a room : Nat) (s : Sh) (K : Nat → Prop) : Prop where
  ap : AP9 B w F a room s
  inv : Inv room s
  own : ∀ g, F g → B ≤ g ∧ g < w.heap.size
  keep : ∀ g, K g → g < w.heap.size ∧ ¬ F g
  base : B ≤ w.heap.size
section
variable {w w1 : World} {B a room : Nat} {F F' K : Nat → Prop} {s s' : Sh}
theorem Al9.op (h : Al9 w B F a room s K) (haf : Aft9 B w F a room s' w1 F') (hI : Inv room s') :
    Al9 w1 B (fun g => F' g ∧ g < w1.heap.size) a room s' (fun g => K g ∨ (w.heap.size ≤ g ∧ g < w1.heap.size ∧ ¬ F' g)) ∧ Kept w w1 K ∧ Below B w w1 := by
  have hz := haf.2.2.size
  refine ⟨⟨haf.1.mono fun g hg hl => ⟨hg, hl⟩, hI, fun g hg => ⟨?_, hg.2⟩, fun g hg => ?_, Nat.le_trans h.base hz⟩, haf.2.2.keptQ fun g hg => (h.keep g hg).2, haf.2.2.below (fun k hk hf => by have := h.own k hf; omega) h.base⟩
  · rcases haf.2.1 g hg.1 with q | q
    · exact (h.own g q).1
    · have := h.base; omega
  · rcases hg with hg | hg
    · have hk := h.keep g hg
      exact ⟨by omega, fun e => by
        rcases haf.2.1 g e.1 with q | q
        · exact hk.2 q
        · omega⟩
    · exact ⟨hg.2.1, fun e => hg.2.2 e.1⟩
theorem Al9.below (h : Al9 w B F a room s K) (hb : Below w.heap.size w w1) : Al9 w1 B F a room s (fun g => K g ∨ (w.heap.size ≤ g ∧ g < w1.heap.size)) ∧ Kept w w1 K ∧ Below B w w1 := by
  have hz := hb.size
  refine ⟨⟨h.ap.kept (Kept.of_below hb) (hb.mono h.base), h.inv, fun g hg => by have := h.own g hg; omega, fun g hg => ?_, Nat.le_trans h.base hz⟩, Kept.of_below hb, hb.mono h.base⟩
  rcases hg with hg | hg
  · have := h.keep g hg; exact ⟨by omega, this.2⟩
  · exact ⟨hg.2, fun e => by have := h.own g e; omega⟩
def On9 (w : World) (B a room : Nat) (s : Sh) (K : Nat → Prop) : Prop := ∃ F, Al9 w B F a room s K
theorem On9.below (h : On9 w B a room s K) (hb : Below w.heap.size w w1) : On9 w1 B a room s (fun g => K g ∨ (w.heap.size ≤ g ∧ g < w1.heap.size)) := by
  obtain ⟨F, h⟩ := h
  exact ⟨F, (h.below hb).1⟩
theorem On9.kept (h : On9 w B a room s K) {Q : Nat → Prop} (hk : ∀ g, ¬ Q g → g < w.heap.size → w1.heap[g]? = w.heap[g]?) (hz : w.heap.size ≤ w1.heap.size) (hQ : ∀ g, Q g → K g ∨ w.heap.size ≤ g) (hB : Below B w w1) : On9 w1 B a room s (fun g => K g ∨ (w.heap.size ≤ g ∧ g < w1.heap.size)) := by
  obtain ⟨F, h⟩ := h
  refine ⟨F, h.ap.kept ⟨hz, fun g hg hl => hk g (fun hq => ?_) hl⟩ hB, h.inv, fun g hg => by have := h.own g hg; omega, fun g hg => ?_, Nat.le_trans h.base hz⟩
  · rcases hQ g hq with e | e
    · exact (h.keep g e).2 hg
    · omega
  · rcases hg with hg | hg
    · have := h.keep g hg; exact ⟨by omega, this.2⟩
    · exact ⟨hg.2, fun e => by have := h.own g e; omega⟩
theorem On9.mono (h : On9 w B a room s K) {K' : Nat → Prop} (hk : ∀ g, K' g → K g) : On9 w B a room s K' := by
  obtain ⟨F, h⟩ := h
  exact ⟨F, h.ap, h.inv, h.own, fun g hg => h.keep g (hk g hg), h.base⟩
theorem On9.base (h : On9 w B a room s K) : B ≤ w.heap.size := by obtain ⟨F, h⟩ := h; exact h.base
theorem On9.inv (h : On9 w B a room s K) : Inv room s := by obtain ⟨F, h⟩ := h; exact h.inv
theorem On9.fits (h : On9 w B a room s K) : FitT s := by obtain ⟨F, h⟩ := h; exact h.ap.fits
theorem On9.wide (h : On9 w B a room s K) : room ≤ 65536 := by obtain ⟨F, h⟩ := h; exact h.ap.wide
theorem On9.lt (h : On9 w B a room s K) {g : Nat} (hg : K g) : g < w.heap.size := by obtain ⟨F, h⟩ := h; exact (h.keep g hg).1
def Lf9 (w : World) (B a room : Nat) (s : Sh) (K : Nat → Prop) (w' : World) (K' : Nat → Prop) : Prop := On9 w' B a room s K' ∧ (∀ g, K g → K' g) ∧ Kept w w' K ∧ Below B w w'
theorem o9Put (h : On9 w B a room s K) (l : List Nd) (A : Option Addr) (ca : Nat) (hrow : RowN w K A l) (hlen : l.length ≤ 100000) (hfit : ∀ n ∈ l, FitK n) :
    Calls Tryz.prog 51 #[.pointer (some ⟨a, 0, none⟩), .slice A l.length ca] w fun e w' => ∃ O co K', e = .returned (.tuple #[.slice O (putA room s l).2.1.length co, .int .i64 ((putA room s l).2.2 : Int)]) ∧ RowI w' K' O (putA room s l).2.1 ∧ Lf9 w B a room (putA room s l).1 K w' K' := by
  obtain ⟨F, h⟩ := h
  have hI := (inv_put h.inv l).1
  refine (a9Put h.ap h.inv l A ca hrow (fun g hg => (h.keep g hg).2) hlen hfit).mono fun e w' ⟨O, co, hr, F', r, haf⟩ => ?_
  obtain ⟨h1, h2, h3⟩ := h.op haf hI
  exact ⟨O, co, _, hr, r.mono fun g hg hl => .inr ⟨hg.1, hl, hg.2⟩, ⟨_, h1⟩, fun g hg => .inl hg, h2, h3⟩
end
theorem o9New (w : World) (hE : TB w.heap.size w) (room : Nat) (hr : room ≤ 65536) :
    Calls Tryz.prog 6 #[.int .i64 (room : Int)] w fun e w' => ∃ a K', e = .returned (.tuple #[.pointer (some ⟨a, 0, none⟩), .int .i64 0]) ∧ On9 w' w.heap.size a room [] K' ∧ (∀ g, g < w.heap.size → K' g) ∧ Below w.heap.size w w' := by
  refine (a9New w room hE (Nat.le_refl _)).mono fun e w' ⟨hy, _, hb⟩ => ?_
  obtain ⟨a, he, hA⟩ := hy (by omega)
  have hA : AP9 w.heap.size w' (fun g => w.heap.size ≤ g) a room [] := by simpa using hA
  have hz := hb.size
  exact ⟨a, fun g => g < w.heap.size, he, ⟨fun g => w.heap.size ≤ g ∧ g < w'.heap.size, ⟨hA.mono fun g h hl => ⟨h, hl⟩, inv_nil room, fun g hg => hg, fun g hg => ⟨by omega, fun e => by omega⟩, hz⟩⟩, fun g hg => hg, hb⟩
end Go.Proofs.YtjgjacihdggimaaGreatDoor
namespace Go.Proofs.YtjgjacihdggimaaGreatDoor
open Go.RowKit
structure BI (w : World) (g : Nat) (ins : List Bool) : Prop where
  bits : ∀ (i : Nat) (b : Bool), ins[i]? = some b → w.cell? ⟨g, i, none⟩ = some (.bool b)
  froz : ∀ j, w.frozen? ⟨g, j, none⟩ = false
  lt : g < w.heap.size
theorem BI.set {w : World} {g : Nat} {ins : List Bool} (h : BI w g ins) {j : Nat} (hj : j < ins.length) : BI (w.setCell ⟨g, j, none⟩ (.bool true)) g (ins.set j true) := by
  refine ⟨fun i b hi => ?_, fun i => by rw [World.frozen?_setCell]; exact h.froz i, by simpa using h.lt⟩
  by_cases e : j = i
  · subst e
    rw [List.getElem?_set_self hj] at hi
    obtain rfl := Option.some.inj hi
    exact World.cell?_setCell_same _ _ _ (h.bits j _ (List.getElem?_eq_getElem hj))
  · rw [List.getElem?_set_ne e] at hi
    rw [World.cell?_setCell_other _ _ _ _ (fun e' => e (by have := congrArg Addr.off e'; exact this))]
    exact h.bits i b hi
theorem BI.below {w w' : World} {g : Nat} {ins : List Bool} (h : BI w g ins) (hb : Below w.heap.size w w') : BI w' g ins :=
  ⟨fun i b hi => keep_cell hb (h.bits i b hi), fun j => keep_frozen hb (by exact h.lt) (h.froz j), Nat.lt_of_lt_of_le h.lt hb.size⟩
theorem made_bits (n : Nat) : (madeCells (Value.bool false).cells (n * 1)).toList = (List.replicate n false).flatMap boV := by
  apply List.ext_getElem?
  intro i
  by_cases hi : i < n
  · have h1 : ((List.replicate n false).flatMap boV)[i]? = some (.bool false) := by
      have := flatR_at (f := boV) (n := 1) (fun _ => rfl) (List.replicate n false) i false (by rw [List.getElem?_replicate, if_pos hi]) 0 (.bool false) rfl
      simpa using this
    rw [h1]
    simp [madeCells, hi, Value.cells, Nat.mod_one]
  · rw [List.getElem?_eq_none_iff.2 (by simp [madeCells]; omega), List.getElem?_eq_none_iff.2 (by rw [flatR_len (f := boV) (n := 1) (fun _ => rfl)]; simp; omega)]
theorem BI.made {w : World} {base g n c : Nat} (h : w.ownsRow base 4 1 (.slice (some ⟨g, 0, none⟩) n c) n (madeCells (Value.bool false).cells (n * 1)).toList) : BI w g (List.replicate n false) := by
  rw [made_bits] at h
  have ho : OwnR 4 1 boV base w (.slice (some ⟨g, 0, none⟩) n c) (List.replicate n false) := by unfold OwnR; rw [List.length_replicate]; exact h
  exact ⟨bits_atR (OwnR.at (fun _ => rfl) ho (by rw [List.length_replicate])), World.ownsRow.frozenAt h, (World.ownsRow.lt h g rfl).2⟩
structure MkI (s : Sh) (roots : List Int) (n : Nat) (ins : List Bool) : Prop where
  len : ins.length = n
  sound : ∀ j : Nat, ins[j]? = some true → 1 ≤ j ∧ Rch s roots (j : Int)
def Hands (nds : List Nd) (ins : List Bool) (j k : Nat) : Prop := ∀ n, nds[j]? = some n → ∀ r ∈ n.refs.take k, 0 < r → ins[r.toNat]? = some true
theorem set_true {ins : List Bool} {i j : Nat} (h : ins[j]? = some true) : (ins.set i true)[j]? = some true := by
  by_cases e : i = j
  · subst e; rw [List.getElem?_set_self (List.getElem?_eq_some_iff.1 h).1]
  · rw [List.getElem?_set_ne e]; exact h
theorem MkI.set {s : Sh} {roots : List Int} {n : Nat} {ins : List Bool} {i : Nat} (h : MkI s roots n ins) (h1 : 1 ≤ i) (hr : Rch s roots (i : Int)) : MkI s roots n (ins.set i true) :=
  ⟨by rw [List.length_set]; exact h.len, fun j hj => by
    by_cases e : i = j
    · subst e; exact ⟨h1, hr⟩
    · rw [List.getElem?_set_ne e] at hj; exact h.sound j hj⟩
section
variable {w w' : World} {P Q : Nat → Prop} {m gN cN gB cB room : Nat} {nds : List Nd} {bs : List Bool}
set_option maxHeartbeats 16000000 in
set_option maxRecDepth 10000 in
theorem rReach_any (h : RM w P m gN cN gB cB room nds bs) (hinv : Inv room (stOf nds bs)) (roots : List Int) (R : Option Addr) (cr : Nat) (hR : RowI w Q R roots) (hrl : roots.length ≤ 1000000) :
    Calls Tryz.prog 37 #[.pointer (some ⟨m, 0, none⟩), .slice R roots.length cr] w fun e w' => ∃ A ca, e = .returned (.slice A (reachA (stOf nds bs) roots).length ca) ∧ RowI w' (fun g => w.heap.size ≤ g) A (reachA (stOf nds bs) roots) ∧ Below w.heap.size w w' := by
  obtain ⟨i0, hi0, hz0, hz1, hz2⟩ := info_parts int_info
  obtain ⟨i1, hi1, hy0, hy1, hy2⟩ := info_parts bool_info
  have HR := Lib.hid h
  have HI := Lib.hid hinv
  have HRo := Lib.hid hR
  have hone := h.one
  have hcap := h.cap
  have hsm := h.small
  have hlen := h.len
  have c2 := h.c2
  clear h hinv hR
  obtain ⟨w1, hmk, ho1, hg1⟩ := run_make_full (P := Tryz.prog) w w.heap.size 66 4 i1 (.bool false) 1 Tryz.underlying66 hi1 hy0 hy1 .i64 .i64 bs.length (by rw [hy2]; omega) (by unfold maxLen; omega) (Nat.le_refl _)
  have hb1 : Below w.heap.size w w1 := ⟨hg1.os, hg1.tape, hg1.output, hg1.size, fun k hk => hg1.block k hk (by simp)⟩
  have HB1 := Lib.hid (BI.made ho1)
  have HM1 : Hid (MkI (stOf nds bs) roots bs.length (List.replicate bs.length false)) := Lib.hid ⟨by simp, fun j hj => by rw [List.getElem?_replicate] at hj; split at hj <;> cases hj⟩
  have hgl := HB1.out.lt
  clear ho1 hg1
  go_enter Tryz.func37, Tryz.ntmps37
  go_wp2_with fail
  clear hmk c2
  go_loopw [6, 7] (fun vi _ wr => ∃ (i : Nat) (ins : List Bool), i ≤ roots.length ∧ vi = .int .i64 (i : Int) ∧ Hid (BI wr w.heap.size ins) ∧ Hid (MkI (stOf nds bs) roots bs.length ins) ∧ Hid (∀ r ∈ roots.take i, live (stOf nds bs) r = true → ins[r.toNat]? = some true) ∧ Below w.heap.size w wr) (fun vi _ _ => roots.length - (RowKit.intOf vi).toNat)
  case atStart => exact ⟨0, _, Nat.zero_le _, rfl, HB1, HM1, Lib.hid (fun r hr => by rw [List.take_zero] at hr; cases hr), hb1⟩
  case round =>
    obtain ⟨i, ins, hi, rfl, HB, HM, HC, hb⟩ := hrel
    have hr := HR.out.below hb
    have HRr := Lib.hid hr
    by_cases hlt : i < roots.length
    · obtain ⟨g, o, rfl, _, _, hc⟩ := HRo.out.at hlt
      obtain ⟨r, hrr⟩ : ∃ r, roots[i]? = some r := ⟨_, List.getElem?_eq_getElem hlt⟩
      have q0 := keep_cell hb (hc i r hrr)
      have HH := Lib.hid (rHas_any hr r)
      have Hrr := Lib.hid hrr
      have hlv := st_live' hlen r
      cases hv : live (stOf nds bs) r with
      | false =>
        rw [hv] at HH
        have HC2 : Hid (∀ r ∈ roots.take (i + 1), live (stOf nds bs) r = true → ins[r.toNat]? = some true) := Lib.hid fun r' hr' hl' => by
          rw [List.take_add_one, hrr] at hr'
          rcases List.mem_append.1 hr' with e | e
          · exact HC.out r' e hl'
          · obtain rfl : r' = r := by simpa using e
            rw [hv] at hl'; cases hl'
        clear hc hrr hr hlv hv
        go_wp2_with fail
        refine HH.out.mono ?_; rintro e w2 ⟨rfl, rfl⟩
        go_wp2_with fail
        go_roundw
        case rel => exact ⟨i + 1, ins, by omega, by go_num, HB, HM, HC2, hb⟩
        case measure => simp [RowKit.intOf]; omega
      | true =>
        have hbd := live_bound hv
        rw [st_len hlen] at hbd
        obtain ⟨j, rfl⟩ : ∃ j : Nat, r = (j : Int) := ⟨r.toNat, by omega⟩
        rw [hv] at HH
        have hji : j < ins.length := by rw [HM.out.len]; omega
        have sB := HB.out.bits j _ (List.getElem?_eq_getElem hji)
        have sF := HB.out.froz j
        have hjl : (j : Int) < (bs.length : Int) := by omega
        have HM2 := Lib.hid (HM.out.set (i := j) (by omega) (.root _ (List.mem_of_getElem? hrr) hv))
        have HC2 : Hid (∀ r ∈ roots.take (i + 1), live (stOf nds bs) r = true → (ins.set j true)[r.toNat]? = some true) := Lib.hid fun r' hr' hl' => by
          rw [List.take_add_one, hrr] at hr'
          rcases List.mem_append.1 hr' with e | e
          · exact set_true (HC.out r' e hl')
          · obtain rfl : r' = (j : Int) := by simpa using e
            rw [show ((j : Int)).toNat = j by omega, List.getElem?_set_self hji]
        have HB2 := Lib.hid (HB.out.set hji)
        clear hc hrr hr hlv hv hbd
        go_wp2_with fail
        refine HH.out.mono ?_; rintro e w2 ⟨rfl, rfl⟩
        go_wp2_with fail
        go_roundw
        case rel => exact ⟨i + 1, _, by omega, by go_num, HB2, HM2, HC2, hb.setCell (Nat.le_refl _) _⟩
        case measure => simp [RowKit.intOf]; omega
    · have hii : i = roots.length := by omega
      subst hii
      have HC0 : Hid (∀ r ∈ roots, live (stOf nds bs) r = true → ins[r.toNat]? = some true) := Lib.hid (by have := HC.out; rwa [List.take_length] at this)
      have HBa := HB
      have HMa := HM
      have hba := hb
      clear hr HRr HB HM HC hb hi hlt
      go_wp2_with fail
      go_loopg [8, 9, 10, 11] (2 * fls ins + 1) (fun gn vm _ _ _ wr2 => ∃ (ins2 : List Bool) (mo : Bool), gn = 2 * fls ins2 + (if mo then 1 else 0) ∧ vm = .bool mo ∧ Hid (BI wr2 w.heap.size ins2) ∧ Hid (MkI (stOf nds bs) roots bs.length ins2) ∧ Hid (∀ r ∈ roots, live (stOf nds bs) r = true → ins2[r.toNat]? = some true) ∧ Hid (mo = false → ∀ (j : Nat) (k : Nat), ins2[j]? = some true → Hands nds ins2 j k) ∧ Below w.heap.size w wr2)
      case atStart => exact ⟨ins, true, rfl, rfl, HBa, HMa, HC0, Lib.hid (fun e => by cases e), hba⟩
      case round =>
        obtain ⟨ins2, mo, hgn, rfl, HB2, HM2, HC2, HH2, hb2⟩ := hrel
        cases mo with
        | true =>
          clear HH2
          go_wp2_with fail
          go_loopw [8, 9, 10, 11] (fun vm vh _ _ wr3 => ∃ (h : Nat) (ins3 : List Bool) (mo : Bool), 1 ≤ h ∧ h ≤ bs.length ∧ vm = .bool mo ∧ vh = .int .i64 (h : Int) ∧ Hid (fls ins3 ≤ fls ins2 ∧ (mo = true → fls ins3 < fls ins2)) ∧ Hid (BI wr3 w.heap.size ins3) ∧ Hid (MkI (stOf nds bs) roots bs.length ins3) ∧ Hid (∀ r ∈ roots, live (stOf nds bs) r = true → ins3[r.toNat]? = some true) ∧ Hid (mo = false → ∀ (j : Nat) (k : Nat), j < h → ins3[j]? = some true → Hands nds ins3 j k) ∧ Below w.heap.size w wr3) (fun _ vh _ _ _ => bs.length - (RowKit.intOf vh).toNat)
          case atStart => exact ⟨1, ins2, false, Nat.le_refl _, hone, rfl, rfl, Lib.hid ⟨Nat.le_refl _, fun e => by cases e⟩, HB2, HM2, HC2, Lib.hid (fun _ j k hj hi => by have := (HM2.out.sound j hi).1; omega), hb2⟩
          case round =>
            obtain ⟨h, ins3, mo, h1, hh, rfl, rfl, HF3, HB3, HM3, HC3, HH3, hb3⟩ := hrel
            by_cases hlt : h < bs.length
            · obtain ⟨n, hn⟩ : ∃ n, nds[h]? = some n := ⟨_, List.getElem?_eq_getElem (by omega)⟩
              obtain ⟨B, cb, C, cc, ⟨_, q1, _, _⟩, hB, _⟩ := HR.out.rows h n hn
              have HQ := Lib.hid (And.intro HR.out.c1 (And.intro q1 hB))
              have Hn := Lib.hid hn
              have hwd := (HR.out.wide n (List.mem_of_getElem? hn)).1
              clear q1 hB hn
              go_wp2_with fail
              go_loopw [8, 10, 11] (fun vm vk _ wr4 => ∃ (k : Nat) (ins4 : List Bool) (mo : Bool), k ≤ n.refs.length ∧ vm = .bool mo ∧ vk = .int .i64 (k : Int) ∧ Hid (fls ins4 ≤ fls ins2 ∧ (mo = true → fls ins4 < fls ins2)) ∧ Hid (BI wr4 w.heap.size ins4) ∧ Hid (MkI (stOf nds bs) roots bs.length ins4) ∧ Hid (∀ r ∈ roots, live (stOf nds bs) r = true → ins4[r.toNat]? = some true) ∧ Hid (mo = false → ∀ (j : Nat) (k' : Nat), j < h → ins4[j]? = some true → Hands nds ins4 j k') ∧ Hid (∀ r ∈ n.refs.take k, 0 < r → ins4[r.toNat]? = some true) ∧ Below w.heap.size w wr4) (fun _ vk _ _ => n.refs.length - (RowKit.intOf vk).toNat)
              case atStart => exact ⟨0, ins3, mo, Nat.zero_le _, rfl, rfl, HF3, HB3, HM3, HC3, HH3, Lib.hid (fun r hr => by rw [List.take_zero] at hr; cases hr), hb3⟩
              case round =>
                obtain ⟨k, ins4, mo, hk, rfl, rfl, HF4, HB4, HM4, HC4, HH4, HK4, hb4⟩ := hrel
                have hhl : h < ins4.length := by rw [HM4.out.len]; omega
                obtain ⟨b, hbb⟩ : ∃ b, ins4[h]? = some b := ⟨_, List.getElem?_eq_getElem hhl⟩
                have sH := HB4.out.bits h b hbb
                have c1 := keep_cell hb4 HQ.out.1
                have q1 := keep_cell hb4 HQ.out.2.1
                have hI : (h : Int) < (nds.length : Int) := by omega
                have hI2 : (h : Int) < (bs.length : Int) := by omega
                have hE : ∀ (hl : b = true → n.refs.length ≤ k), Hid (mo = false → ∀ (j : Nat) (k' : Nat), j < h + 1 → ins4[j]? = some true → Hands nds ins4 j k') := fun hl => Lib.hid fun hm j k' hj hi => by
                  by_cases e : j = h
                  · subst e
                    rw [hbb] at hi
                    have hbt : b = true := Option.some.inj hi
                    intro n' hn' r hr hp
                    rw [Hn.out] at hn'
                    obtain rfl := Option.some.inj hn'
                    have hkl := hl hbt
                    refine HK4.out r ?_ hp
                    rw [List.take_of_length_le hkl]
                    exact List.mem_of_mem_take hr
                  · exact HH4.out hm j k' (by omega) hi
                have HE := Lib.hid hE
                clear hE
                cases b with
                | false =>
                  have HE2 := HE.out (fun e => by cases e)
                  clear HE hbb
                  go_wp2_with fail
                  go_roundw
                  case rel => exact ⟨h + 1, ins4, mo, by omega, by omega, rfl, by go_num, HF4, HB4, HM4, HC4, HE2, hb4⟩
                  case measure => simp [RowKit.intOf]; omega
                | true =>
                  by_cases hkl : k < n.refs.length
                  · obtain ⟨g2, o2, rfl, _, _, hc⟩ := (HQ.out.2.2).at hkl
                    obtain ⟨r, hr⟩ : ∃ r, n.refs[k]? = some r := ⟨_, List.getElem?_eq_getElem hkl⟩
                    have q2 := keep_cell hb4 (hc k r hr)
                    have hkI : (k : Int) < (n.refs.length : Int) := by omega
                    have hRh := (HM4.out.sound h hbb).2
                    have hnA : ndAt (stOf nds bs) (h : Int) = some n := by
                      rw [st_ndAt hlen h h1, if_pos ((st_live hlen h h1).1 (rch_live HI.out hRh))]; exact Hn.out
                    clear HE hc
                    by_cases hp : 0 < r
                    · have hlv : live (stOf nds bs) r = true := by
                        rcases HI.out.shut _ n hnA r (List.mem_of_getElem? hr) with e | e
                        · omega
                        · exact e
                      have hbd := live_bound hlv
                      rw [st_len hlen] at hbd
                      obtain ⟨j, rfl⟩ : ∃ j : Nat, r = (j : Int) := ⟨r.toNat, by omega⟩
                      have hRr : Rch (stOf nds bs) roots (j : Int) := .ref _ _ n hRh hnA (List.mem_of_getElem? hr) hp
                      have hji : j < ins4.length := by rw [HM4.out.len]; omega
                      have hjl : (j : Int) < (bs.length : Int) := by omega
                      obtain ⟨c, hcj⟩ : ∃ c, ins4[j]? = some c := ⟨_, List.getElem?_eq_getElem hji⟩
                      have sB := HB4.out.bits j _ hcj
                      have sF := HB4.out.froz j
                      have dp : decide ((0 : Int) < (j : Int)) = true := decide_eq_true hp
                      have dpN : decide (0 < j) = true := decide_eq_true (by omega)
                      cases c with
                      | true =>
                        have HK5 : Hid (∀ r ∈ n.refs.take (k + 1), 0 < r → ins4[r.toNat]? = some true) := Lib.hid fun r' hr' hp' => by
                          rw [List.take_add_one, hr] at hr'
                          rcases List.mem_append.1 hr' with e | e
                          · exact HK4.out r' e hp'
                          · obtain rfl : r' = (j : Int) := by simpa using e
                            rw [show ((j : Int)).toNat = j by omega]; exact hcj
                        clear hbb hr hRh hnA hlv hbd hRr hcj hp
                        go_wp2_with fail
                        go_roundw
                        case rel => exact ⟨k + 1, ins4, mo, by omega, rfl, by go_num, HF4, HB4, HM4, HC4, HH4, HK5, hb4⟩
                        case measure => simp [RowKit.intOf]; omega
                      | false =>
                        have hfl := fls_set ins4 j hcj
                        have HF5 : Hid (fls (ins4.set j true) ≤ fls ins2 ∧ (true = true → fls (ins4.set j true) < fls ins2)) := Lib.hid ⟨by have := HF4.out.1; omega, fun _ => by have := HF4.out.1; omega⟩
                        have HM5 := Lib.hid (HM4.out.set (i := j) (by omega) hRr)
                        have HB5 := Lib.hid (HB4.out.set hji)
                        have HC5 : Hid (∀ r ∈ roots, live (stOf nds bs) r = true → (ins4.set j true)[r.toNat]? = some true) := Lib.hid fun r' hr' hl' => set_true (HC4.out r' hr' hl')
                        have HK5 : Hid (∀ r ∈ n.refs.take (k + 1), 0 < r → (ins4.set j true)[r.toNat]? = some true) := Lib.hid fun r' hr' hp' => by
                          rw [List.take_add_one, hr] at hr'
                          rcases List.mem_append.1 hr' with e | e
                          · exact set_true (HK4.out r' e hp')
                          · obtain rfl : r' = (j : Int) := by simpa using e
                            rw [show ((j : Int)).toNat = j by omega, List.getElem?_set_self hji]
                        have HH5 : Hid (true = false → ∀ (j' : Nat) (k' : Nat), j' < h → (ins4.set j true)[j']? = some true → Hands nds (ins4.set j true) j' k') := Lib.hid (fun e => by cases e)
                        clear hbb hr hRh hnA hlv hbd hRr hcj hp hfl
                        go_wp2_with fail
                        go_roundw
                        case rel => exact ⟨k + 1, ins4.set j true, true, by omega, rfl, by go_num, HF5, HB5, HM5, HC5, HH5, HK5, hb4.setCell (Nat.le_refl _) _⟩
                        case measure => simp [RowKit.intOf]; omega
                    · have dp : decide ((0 : Int) < r) = false := decide_eq_false hp
                      have HK5 : Hid (∀ r ∈ n.refs.take (k + 1), 0 < r → ins4[r.toNat]? = some true) := Lib.hid fun r' hr' hp' => by
                        rw [List.take_add_one, hr] at hr'
                        rcases List.mem_append.1 hr' with e | e
                        · exact HK4.out r' e hp'
                        · obtain rfl : r' = r := by simpa using e
                          exact absurd hp' hp
                      clear hbb hr hRh hnA hp
                      go_wp2_with fail
                      go_roundw
                      case rel => exact ⟨k + 1, ins4, mo, by omega, rfl, by go_num, HF4, HB4, HM4, HC4, HH4, HK5, hb4⟩
                      case measure => simp [RowKit.intOf]; omega
                  · have HE2 := HE.out (fun _ => by omega)
                    have hkI : decide ((k : Int) < (n.refs.length : Int)) = false := decide_eq_false (by omega)
                    clear HE hbb
                    go_wp2_with fail
                    go_roundw
                    case rel => exact ⟨h + 1, ins4, mo, by omega, by omega, rfl, by go_num, HF4, HB4, HM4, HC4, HE2, hb4⟩
                    case measure => simp [RowKit.intOf]; omega
            · have hhh : h = bs.length := by omega
              subst hhh
              have HH4 : Hid (mo = false → ∀ (j : Nat) (k : Nat), ins3[j]? = some true → Hands nds ins3 j k) := Lib.hid fun e j k hj => HH3.out e j k (by have := (List.getElem?_eq_some_iff.1 hj).1; rw [HM3.out.len] at this; exact this) hj
              have hf3 := HF3.out
              go_wp2_with fail
              go_roundg (2 * fls ins3 + (if mo then 1 else 0))
              case measure => rw [hgn]; cases mo <;> simp at hf3 ⊢ <;> omega
              case rel => exact ⟨ins3, mo, rfl, rfl, HB3, HM3, HC3, HH4, hb3⟩
        | false =>
          have HZ := Lib.hid (st_reach (room := room) hlen HM2.out.len HI.out (rch_marks hlen (fun i h1 hi => (HM2.out.sound i hi).2) HC2.out (fun i n h1 hi hn r hr hp => HH2.out rfl i n.refs.length hi n hn r (by rw [List.take_length]; exact hr) hp)))
          have HDa := Lib.hid (fun i : Nat => show (ins2.drop 1)[i]? = ins2[i + 1]? by rw [List.getElem?_drop, Nat.add_comm 1 i])
          have HDl : Hid ((ins2.drop 1).length = bs.length - 1) := Lib.hid (by rw [List.length_drop, HM2.out.len])
          have HIl := Lib.hid HM2.out.len
          generalize hLVe : reachA (stOf nds bs) roots = LV at *
          have HLV := Lib.hid hLVe
          clear hLVe
          generalize ins2.drop 1 = D at *
          have hsz2 := hb2.size
          clear HH2 HC2 HM2 HC0 HBa HMa HM1 HB1 hba HRo hgn
          go_wp2_with fail
          go_loopw [12, 13] (fun v vi wr => ∃ i : Nat, i + 1 ≤ bs.length ∧ vi = .int .i64 ((i : Int) + 1) ∧ Hid (BI wr w.heap.size ins2) ∧ Hid (OwnR 3 1 inW (w.heap.size + 1) wr v (tru 1 (D.take i))) ∧ Below w.heap.size w wr ∧ w.heap.size < wr.heap.size) (fun _ vi _ => bs.length - (RowKit.intOf vi).toNat)
          case atStart => exact ⟨0, by omega, rfl, HB2, Lib.hid (by rw [List.take_zero]; exact World.ownsRow_nil _ _ _ _), hb2, HB2.out.lt⟩
          case round =>
            obtain ⟨i, hi, rfl, HB, HO, hb, hsl⟩ := hrel
            by_cases hlt : i + 1 < bs.length
            · obtain ⟨b, hbb⟩ : ∃ b, ins2[i + 1]? = some b := ⟨_, List.getElem?_eq_getElem (by rw [HIl.out]; exact hlt)⟩
              have q0 := HB.out.bits _ _ hbb
              have HT := Lib.hid (tru_take (l := D) (i := i) (b := b) ((HDa.out i).trans hbb) 1)
              have hlT : (tru 1 (D.take i)).length ≤ 65536 := by
                have := tru_len (D.take i) 1
                rw [List.length_take] at this
                omega
              clear hbb
              cases b with
              | false =>
                have HT2 : Hid (tru 1 (D.take (i + 1)) = tru 1 (D.take i)) := Lib.hid (by rw [HT.out]; simp)
                go_wp2_with fail
                go_roundw
                case rel => exact ⟨i + 1, by omega, by go_num, HB, by rw [HT2.out]; exact HO, hb, hsl⟩
                case measure => simp [RowKit.intOf]; omega
              | true =>
                have HT2 : Hid (tru 1 (D.take i) ++ [(i : Int) + 1] = tru 1 (D.take (i + 1))) := Lib.hid (by rw [HT.out, Int.add_comm]; rfl)
                have hbs := hb.size
                go_wp2_with (at_builtin; refine of_stop ?_)
                refine stop_of ?_
                refine wpList_append_rows (f := inW) (n := 1) (E := 3) (nb := 8) (X := tru 1 (D.take i)) (base := w.heap.size + 1) rfl _ _ rfl rfl (OwnR.below HO.out ((Below.refl _ _).alloc (Nat.le_refl _) _)) (L2 := [(i : Int) + 1]) rfl (one_row wr ((i : Int) + 1)) (by simp) (N := (tru 1 (D.take i)).length + 1) rfl (Z := tru 1 (D.take (i + 1))) HT2.out Tryz.underlying54 hi0 hz0 hz1 hz2 rfl (by decide) (by decide) (fun _ => rfl) inW_one (by omega) (by simp; omega) ?_
                intro g2 k2 w2 ho2 hg2 hat2 hl2
                have hb2' : Below (w.heap.size + 1) wr w2 := ((Below.refl _ _).alloc (by omega) _).grown hg2 (by simp; omega) (fun k hk => (World.ownsRow.lt HO.out k hk).1)
                have HB3 : Hid (BI w2 w.heap.size ins2) := Lib.hid ⟨fun j b hj => by rw [hb2'.cell (by show w.heap.size < _; omega)]; exact HB.out.bits j b hj, fun j => by rw [hb2'.frozen (by show w.heap.size < _; omega)]; exact HB.out.froz j, Nat.lt_of_lt_of_le HB.out.lt hb2'.size⟩
                have HO2 := Lib.hid ho2
                have hbw := hb.trans (hb2'.mono (Nat.le_succ _))
                have hs2 := hb2'.size
                clear ho2 hg2 hat2 hl2 hb2'
                go_wp2_with fail
                go_roundw
                case rel => exact ⟨i + 1, by omega, by go_num, HB3, HO2, hbw, by omega⟩
                case measure => simp [RowKit.intOf]; omega
            · have hii : i = bs.length - 1 := by omega
              have HO2 : Hid (OwnR 3 1 inW (w.heap.size + 1) wr _ LV) := Lib.hid (by rw [HZ.out]; have := HO.out; rwa [hii, List.take_of_length_le (by rw [HDl.out]; omega)] at this)
              obtain ⟨A, cap, rfl, hA⟩ := own_rowI HO2.out
              go_wp2_with fail
              go_ret
              rw [HLV.out]
              exact ⟨A, cap, rfl, hA.mono (fun g hg _ => by omega), hb⟩
end
end Go.Proofs.YtjgjacihdggimaaGreatDoor
namespace Go.Proofs.YtjgjacihdggimaaGreatDoor
open Go.RowKit
theorem reach_mem {room : Nat} {s : Sh} (hi : Inv room s) {roots : List Int} {h : Int} : h ∈ reachA s roots ↔ Rch s roots h := by
  unfold reachA
  rw [liveA_mem, left_live hi]
end Go.Proofs.YtjgjacihdggimaaGreatDoor
namespace Go.Proofs.YtjgjacihdggimaaGreatDoor
open Go.RowKit
theorem make_node (w : World) : (Instr.makeSlice 65 (.int .i64 1) (.int .i64 1)).run Tryz.prog w = .ok (.slice (some ⟨w.heap.size, 0, none⟩) 1 1) (w.alloc (.cells #[.int .i64 0, .slice none 0 0, .slice none 0 0, .string ⟨#[]⟩] 110)) := by
  obtain ⟨i1, hi1, hy0, hy1, hy2⟩ := info_parts rnode_info
  have h := run_make (P := Tryz.prog) w 65 110 i1 _ Tryz.underlying65 hi1 hy0 .i64 .i64 1 1 (by decide) (by decide) (by rw [hy2]; decide) (by decide)
  rw [hy1, show madeCells (Value.agg #[.int .i64 0, .slice none 0 0, .slice none 0 0, .string ⟨#[]⟩]).cells (Int.toNat 1 * 4) = #[.int .i64 0, .slice none 0 0, .slice none 0 0, .string ⟨#[]⟩] by kernel_rfl] at h
  exact h
theorem make_bool (w : World) : (Instr.makeSlice 66 (.int .i64 1) (.int .i64 1)).run Tryz.prog w = .ok (.slice (some ⟨w.heap.size, 0, none⟩) 1 1) (w.alloc (.cells #[.bool false] 4)) := by
  obtain ⟨i1, hi1, hy0, hy1, hy2⟩ := info_parts bool_info
  have h := run_make (P := Tryz.prog) w 66 4 i1 _ Tryz.underlying66 hi1 hy0 .i64 .i64 1 1 (by decide) (by decide) (by rw [hy2]; decide) (by decide)
  rw [hy1, show madeCells (Value.bool false).cells (Int.toNat 1 * 1) = #[.bool false] by kernel_rfl] at h
  exact h
theorem heap3 (w : World) (A B C : Obj) : (((w.alloc A).alloc B).alloc C).heap[w.heap.size]? = some A ∧ (((w.alloc A).alloc B).alloc C).heap[w.heap.size + 1]? = some B ∧ (((w.alloc A).alloc B).alloc C).heap[w.heap.size + 1 + 1]? = some C := by
  refine ⟨?_, ?_, ?_⟩
  · rw [Below.heap_alloc _ C _ (by simp; omega)]; exact heapA_old w A B
  · rw [Below.heap_alloc _ C _ (by simp)]; exact heapA_new w A B
  · have := (MapKept.heap_alloc ((w.alloc A).alloc B) C).1
    simpa using this
theorem rm_begin {w : World} {P : Nat → Prop} {m gN gB room : Nat} {T1 T2 T3 : TypeId} (hm : w.heap[m]? = some (.cells #[.int .i64 (room : Int), .slice (some ⟨gN, 0, none⟩) 1 1, .slice (some ⟨gB, 0, none⟩) 1 1] T1 (0, 0)))
    (hN : w.heap[gN]? = some (.cells #[.int .i64 0, .slice none 0 0, .slice none 0 0, .string ⟨#[]⟩] T2 (0, 0))) (hB : w.heap[gB]? = some (.cells #[.bool false] T3 (0, 0))) (pM : P m) (pN : P gN) (pB : P gB) (n1 : m ≠ gN) (n2 : m ≠ gB) (n3 : gN ≠ gB) (hr : room ≤ 65536) :
    RM w P m gN 1 gB 1 room [nd0] [false] :=
  ⟨Lib.cell_of_heap hm 0, Lib.cell_of_heap hm 1, Lib.cell_of_heap hm 2, frozen_of hm, frozen_of hN, frozen_of hB, pM, pN, pB, n1, n2, n3, (Array.getElem?_eq_some_iff.1 hN).1, (Array.getElem?_eq_some_iff.1 hB).1,
    fun i n hi => by
      cases i with
      | zero =>
        obtain rfl : nd0 = n := by simpa using hi
        exact ⟨none, 0, none, 0, ⟨Lib.cell_of_heap hN 0, Lib.cell_of_heap hN 1, Lib.cell_of_heap hN 2, Lib.cell_of_heap hN 3⟩, .inl rfl, .inl rfl⟩
      | succ i => simp at hi,
    fun i b hi => by
      cases i with
      | zero =>
        obtain rfl : false = b := by simpa using hi
        exact Lib.cell_of_heap hB 0
      | succ i => simp at hi,
    rfl, Nat.le_refl _, by simp, hr, fun n hn => by
      obtain rfl : n = nd0 := by simpa using hn
      exact ⟨by decide, by decide⟩, Nat.le_refl _⟩
set_option maxHeartbeats 4000000 in
set_option maxRecDepth 10000 in
theorem rBegin_any (w : World) (room : Nat) (hr : room ≤ 65536) :
    Calls Tryz.prog 7 #[.int .i64 (room : Int)] w fun e w' => ∃ m gN gB, e = .returned (.pointer (some ⟨m, 0, none⟩)) ∧ RM w' (fun g => w.heap.size ≤ g) m gN 1 gB 1 room [nd0] [false] ∧ Below w.heap.size w w' := by
  have h1 := make_node
  have h2 := make_bool
  go_enter Tryz.func7, Tryz.ntmps7
  go_wp2_with fail
  go_region_held3 (fun _ => True) (exact trivial) (first | fail | fail)
  all_goals
    go_wp2_with fail
    go_ret
    first
    | exact ⟨w.heap.size + 1 + 1, w.heap.size, w.heap.size + 1, rfl, rm_begin (heap3 _ _ _ _).2.2 (heap3 _ _ _ _).1 (heap3 _ _ _ _).2.1 (by omega) (by omega) (by omega) (by omega) (by omega) (by omega) hr, (((Below.refl _ _).alloc (Nat.le_refl _) _).alloc (by simp) _).alloc (by simp; omega) _⟩
    | exact ⟨w.heap.size + 1 + 1, w.heap.size + 1, w.heap.size, rfl, rm_begin (heap3 _ _ _ _).2.2 (heap3 _ _ _ _).2.1 (heap3 _ _ _ _).1 (by omega) (by omega) (by omega) (by omega) (by omega) (by omega) hr, (((Below.refl _ _).alloc (Nat.le_refl _) _).alloc (by simp) _).alloc (by simp; omega) _⟩
    | exact ⟨w.heap.size + 1 + 1, w.heap.size, w.heap.size + 1, rfl, (rm_begin (heap3 _ _ _ _).2.2 (heap3 _ _ _ _).1 (heap3 _ _ _ _).2.1 (by omega) (by omega) (by omega) (by omega) (by omega) (by omega) hr).below (Below.drew (Below.refl _ _)), Below.drew ((((Below.refl _ _).alloc (Nat.le_refl _) _).alloc (by simp) _).alloc (by simp; omega) _)⟩
    | exact ⟨w.heap.size + 1 + 1, w.heap.size + 1, w.heap.size, rfl, (rm_begin (heap3 _ _ _ _).2.2 (heap3 _ _ _ _).2.1 (heap3 _ _ _ _).1 (by omega) (by omega) (by omega) (by omega) (by omega) (by omega) hr).below (Below.drew (Below.refl _ _)), Below.drew ((((Below.refl _ _).alloc (Nat.le_refl _) _).alloc (by simp) _).alloc (by simp; omega) _)⟩
end Go.Proofs.YtjgjacihdggimaaGreatDoor
