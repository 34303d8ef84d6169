/- Texts joined: NfL, NfK, NfM. -/
import Derived.Test.YtjgjacihdggimaaGreatDoorDk18
import Derived.Deep.CutRange
import Derived.Deep.RegionLaw
import Derived.Deep.RegionLawGrows
set_option linter.all false
namespace Go.Proofs.YtjgjacihdggimaaGreatDoor
open Go.RowKit Go.Maps
def LM (b : Nat) (vH vL : Value) (g : Nat) : Prop := g = b ∨ vH.ownBlock = some g ∨ vL.ownBlock = some g
structure LSt (w : World) (b a : Nat) (out lds : List Int) (vH vL : Value) (base : Nat) : Prop where
  p0 : w.cell? ⟨b, 0, none⟩ = some (.pointer (some ⟨a, 0, none⟩))
  p1 : w.cell? ⟨b, 1, none⟩ = some vH
  p2 : w.cell? ⟨b, 2, none⟩ = some vL
  fB : ∀ j, w.frozen? ⟨b, j, none⟩ = false
  oH : OwnR 3 1 inW base w vH out
  oL : OwnR 3 1 inW base w vL lds
  ap : Apart vH vL
  hb : vH.ownBlock ≠ some b
  lb : vL.ownBlock ≠ some b
theorem own_blkV {α : Type} {E : TypeId} {n : Nat} {f : α → List Value} {base : Nat} {w w' : World} {v : Value} {L : List α} (h : OwnR E n f base w v L) (hb : ∀ g, v.ownBlock = some g → w'.heap[g]? = w.heap[g]?) : OwnR E n f base w' v L := by
  refine ⟨h.1, ?_⟩
  rcases h.2 with ⟨e, hl⟩ | ⟨g, c, cur, e, h1, h2, h3⟩
  · exact .inl ⟨e, hl⟩
  · exact .inr ⟨g, c, cur, e, h1, (hb g (by rw [e]; rfl)).trans h2, h3⟩
section
variable {w w' w2 : World} {b a base : Nat} {out lds : List Int} {vH vL : Value}
theorem LSt.lt (h : LSt w b a out lds vH vL base) {g : Nat} (hg : LM b vH vL g) : g < w.heap.size := by
  rcases hg with rfl | e | e
  · exact Lib.lt_of_cell h.p0
  · exact (World.ownsRow.lt h.oH g e).2
  · exact (World.ownsRow.lt h.oL g e).2
theorem LSt.ge (h : LSt w b a out lds vH vL base) (hb : base ≤ b) {g : Nat} (hg : LM b vH vL g) : base ≤ g := by
  rcases hg with rfl | e | e
  · exact hb
  · exact (World.ownsRow.lt h.oH g e).1
  · exact (World.ownsRow.lt h.oL g e).1
theorem LSt.kept (h : LSt w b a out lds vH vL base) (hk : Kept w w' (LM b vH vL)) : LSt w' b a out lds vH vL base := by
  have hb : w'.heap[b]? = w.heap[b]? := hk.block b (.inl rfl) (h.lt (.inl rfl))
  exact { h with
    p0 := by rw [World.cell?_of_block (w := w) hb]; exact h.p0
    p1 := by rw [World.cell?_of_block (w := w) hb]; exact h.p1
    p2 := by rw [World.cell?_of_block (w := w) hb]; exact h.p2
    fB := fun j => by rw [World.frozen?_of_block (w := w) hb]; exact h.fB j
    oH := own_blkV h.oH fun g e => hk.block g (.inr (.inl e)) (h.lt (.inr (.inl e)))
    oL := own_blkV h.oL fun g e => hk.block g (.inr (.inr e)) (h.lt (.inr (.inr e))) }
theorem LSt.below (h : LSt w b a out lds vH vL base) (hb : Below w.heap.size w w') : LSt w' b a out lds vH vL base := h.kept (Kept.of_below hb)
theorem LSt.appH (h : LSt w b a out lds vH vL base) {k : Int} {g cap N : Nat} (ho : OwnR 3 1 inW base w2 (.slice (some ⟨g, 0, none⟩) N cap) (out ++ [k])) (hg : w.grownBy w2 vH.ownBlock) (hat : vH.ownBlock = some g ∨ g = w.heap.size) :
    LSt (w2.setCell ⟨b, 1, none⟩ (.slice (some ⟨g, 0, none⟩) N cap)) b a (out ++ [k]) lds (.slice (some ⟨g, 0, none⟩) N cap) vL base := by
  have hlb := h.lt (.inl rfl)
  have hgb : g ≠ b := by
    rcases hat with e | e
    · exact fun e' => h.hb (e' ▸ e)
    · omega
  have hbb : w2.heap[b]? = w.heap[b]? := hg.block b hlb fun e => h.hb e.symm
  have hs : ∀ k, k ≠ b → (w2.setCell ⟨b, 1, none⟩ (.slice (some ⟨g, 0, none⟩) N cap)).heap[k]? = w2.heap[k]? := fun k hk => Below.heap_setCell w2 ⟨b, 1, none⟩ _ k hk
  have c1 : w2.cell? ⟨b, 1, none⟩ = some vH := by rw [World.cell?_of_block (w := w) hbb]; exact h.p1
  exact {
    p0 := by rw [World.cell?_setCell_other _ _ _ _ (by simp), World.cell?_of_block (w := w) hbb]; exact h.p0
    p1 := World.cell?_setCell_same _ _ _ c1
    p2 := by rw [World.cell?_setCell_other _ _ _ _ (by simp), World.cell?_of_block (w := w) hbb]; exact h.p2
    fB := fun j => by rw [World.frozen?_setCell, World.frozen?_of_block (w := w) hbb]; exact h.fB j
    oH := own_blkV ho fun k e => hs k (by simp [Value.ownBlock] at e; omega)
    oL := own_blkV h.oL fun k e => (hs k fun e' => h.lb (e' ▸ e)).trans (hg.block k (h.lt (.inr (.inr e))) fun e' => h.ap k e'.symm e)
    ap := fun k e e' => by
      simp [Value.ownBlock] at e
      subst e
      rcases hat with e | e
      · exact h.ap g e e'
      · have := h.lt (.inr (.inr e')); omega
    hb := by simp [Value.ownBlock]; exact hgb
    lb := h.lb }
theorem LSt.appL (h : LSt w b a out lds vH vL base) {k : Int} {g cap N : Nat} (ho : OwnR 3 1 inW base w2 (.slice (some ⟨g, 0, none⟩) N cap) (lds ++ [k])) (hg : w.grownBy w2 vL.ownBlock) (hat : vL.ownBlock = some g ∨ g = w.heap.size) :
    LSt (w2.setCell ⟨b, 2, none⟩ (.slice (some ⟨g, 0, none⟩) N cap)) b a out (lds ++ [k]) vH (.slice (some ⟨g, 0, none⟩) N cap) base := by
  have hlb := h.lt (.inl rfl)
  have hgb : g ≠ b := by
    rcases hat with e | e
    · exact fun e' => h.lb (e' ▸ e)
    · omega
  have hbb : w2.heap[b]? = w.heap[b]? := hg.block b hlb fun e => h.lb e.symm
  have hs : ∀ k, k ≠ b → (w2.setCell ⟨b, 2, none⟩ (.slice (some ⟨g, 0, none⟩) N cap)).heap[k]? = w2.heap[k]? := fun k hk => Below.heap_setCell w2 ⟨b, 2, none⟩ _ k hk
  have c1 : w2.cell? ⟨b, 2, none⟩ = some vL := by rw [World.cell?_of_block (w := w) hbb]; exact h.p2
  exact {
    p0 := by rw [World.cell?_setCell_other _ _ _ _ (by simp), World.cell?_of_block (w := w) hbb]; exact h.p0
    p1 := by rw [World.cell?_setCell_other _ _ _ _ (by simp), World.cell?_of_block (w := w) hbb]; exact h.p1
    p2 := World.cell?_setCell_same _ _ _ c1
    fB := fun j => by rw [World.frozen?_setCell, World.frozen?_of_block (w := w) hbb]; exact h.fB j
    oH := own_blkV h.oH fun k e => (hs k fun e' => h.hb (e' ▸ e)).trans (hg.block k (h.lt (.inr (.inl e))) fun e' => h.ap k e e'.symm)
    oL := own_blkV ho fun k e => hs k (by simp [Value.ownBlock] at e; omega)
    ap := fun k e e' => by
      simp [Value.ownBlock] at e'
      subst e'
      rcases hat with e2 | e2
      · exact h.ap g e e2
      · have := h.lt (.inr (.inl e)); omega
    hb := h.hb
    lb := by simp [Value.ownBlock]; exact hgb }
end
structure PSt (w : World) (K : Nat → Prop) (a room : Nat) (ps : List (Option Nat)) (t : Sh) (A : Option Addr) (cS bK low b : Nat) (out lds : List Int) (vH vL : Value) (base : Nat) : Prop where
  ar : AR w K a room ps t t A cS bK low
  lk : LowK t low
  ft : FitT t
  ls : LSt w b a out lds vH vL base
  ap : ∀ g, LM b vH vL g → ¬ K g ∧ ¬ Chg a bK A g
section
variable {w w' w2 : World} {K : Nat → Prop} {a room cS bK low b base : Nat} {ps : List (Option Nat)} {t : Sh} {A : Option Addr} {out lds : List Int} {vH vL : Value}
theorem Own.iff {g : Nat} : Own K a bK A g ↔ K g ∨ Chg a bK A g := Iff.rfl
theorem PSt.kept (h : PSt w K a room ps t A cS bK low b out lds vH vL base) (hk : Kept w w' (fun g => Own K a bK A g ∨ LM b vH vL g)) : PSt w' K a room ps t A cS bK low b out lds vH vL base :=
  ⟨h.ar.kept ⟨hk.size, fun g hg hl => hk.block g (.inl hg) hl⟩, h.lk, h.ft, h.ls.kept ⟨hk.size, fun g hg hl => hk.block g (.inr hg) hl⟩, h.ap⟩
theorem PSt.below (h : PSt w K a room ps t A cS bK low b out lds vH vL base) (hb : Below w.heap.size w w') : PSt w' K a room ps t A cS bK low b out lds vH vL base := h.kept (Kept.of_below hb)
theorem PSt.appH (h : PSt w K a room ps t A cS bK low b out lds vH vL base) {k : Int} {g cap N : Nat} (ho : OwnR 3 1 inW base w2 (.slice (some ⟨g, 0, none⟩) N cap) (out ++ [k])) (hg : w.grownBy w2 vH.ownBlock) (hat : vH.ownBlock = some g ∨ g = w.heap.size) :
    PSt (w2.setCell ⟨b, 1, none⟩ (.slice (some ⟨g, 0, none⟩) N cap)) K a room ps t A cS bK low b (out ++ [k]) lds (.slice (some ⟨g, 0, none⟩) N cap) vL base ∧ ButS (LM b vH vL) w (w2.setCell ⟨b, 1, none⟩ (.slice (some ⟨g, 0, none⟩) N cap)) ∧ (∀ j, LM b (.slice (some ⟨g, 0, none⟩) N cap) vL j → LM b vH vL j ∨ w.heap.size ≤ j) ∧ w2.cell? ⟨b, 1, none⟩ = some vH ∧ w2.frozen? ⟨b, 1, none⟩ = false := by
  have hbt : ButS (LM b vH vL) w (w2.setCell ⟨b, 1, none⟩ (.slice (some ⟨g, 0, none⟩) N cap)) := ((ButS.refl _ _).grown hg fun k hk => .inl (.inr (.inl hk))).setCell (.inl (.inl rfl)) _
  have hbb : w2.heap[b]? = w.heap[b]? := hg.block b (h.ls.lt (.inl rfl)) fun e => h.ls.hb e.symm
  have hlm : ∀ j, LM b (.slice (some ⟨g, 0, none⟩) N cap) vL j → LM b vH vL j ∨ w.heap.size ≤ j := fun j hj => by
    rcases hj with e | e | e
    · exact .inl (.inl e)
    · simp [Value.ownBlock] at e
      subst e
      rcases hat with e | e
      · exact .inl (.inr (.inl e))
      · exact .inr (by omega)
    · exact .inl (.inr (.inr e))
  refine ⟨⟨h.ar.kept (hbt.keptQ fun j hj hm => ?_), h.lk, h.ft, h.ls.appH ho hg hat, fun j hj => ?_⟩, hbt, hlm, by rw [World.cell?_of_block (w := w) hbb]; exact h.ls.p1, by rw [World.frozen?_of_block (w := w) hbb]; exact h.ls.fB 1⟩
  · have := h.ap j hm
    rcases hj with hj | hj
    · exact this.1 hj
    · exact this.2 hj
  · rcases hlm j hj with e | e
    · exact h.ap j e
    · exact ⟨fun hk => by have := h.ar.kl j hk; omega, fun hk => by have := (h.ar.chg hk).2; omega⟩
theorem PSt.appL (h : PSt w K a room ps t A cS bK low b out lds vH vL base) {k : Int} {g cap N : Nat} (ho : OwnR 3 1 inW base w2 (.slice (some ⟨g, 0, none⟩) N cap) (lds ++ [k])) (hg : w.grownBy w2 vL.ownBlock) (hat : vL.ownBlock = some g ∨ g = w.heap.size) :
    PSt (w2.setCell ⟨b, 2, none⟩ (.slice (some ⟨g, 0, none⟩) N cap)) K a room ps t A cS bK low b out (lds ++ [k]) vH (.slice (some ⟨g, 0, none⟩) N cap) base ∧ ButS (LM b vH vL) w (w2.setCell ⟨b, 2, none⟩ (.slice (some ⟨g, 0, none⟩) N cap)) ∧ (∀ j, LM b vH (.slice (some ⟨g, 0, none⟩) N cap) j → LM b vH vL j ∨ w.heap.size ≤ j) ∧ w2.cell? ⟨b, 2, none⟩ = some vL ∧ w2.frozen? ⟨b, 2, none⟩ = false := by
  have hbt : ButS (LM b vH vL) w (w2.setCell ⟨b, 2, none⟩ (.slice (some ⟨g, 0, none⟩) N cap)) := ((ButS.refl _ _).grown hg fun k hk => .inl (.inr (.inr hk))).setCell (.inl (.inl rfl)) _
  have hbb : w2.heap[b]? = w.heap[b]? := hg.block b (h.ls.lt (.inl rfl)) fun e => h.ls.lb e.symm
  have hlm : ∀ j, LM b vH (.slice (some ⟨g, 0, none⟩) N cap) j → LM b vH vL j ∨ w.heap.size ≤ j := fun j hj => by
    rcases hj with e | e | e
    · exact .inl (.inl e)
    · exact .inl (.inr (.inl e))
    · simp [Value.ownBlock] at e
      subst e
      rcases hat with e | e
      · exact .inl (.inr (.inr e))
      · exact .inr (by omega)
  refine ⟨⟨h.ar.kept (hbt.keptQ fun j hj hm => ?_), h.lk, h.ft, h.ls.appL ho hg hat, fun j hj => ?_⟩, hbt, hlm, by rw [World.cell?_of_block (w := w) hbb]; exact h.ls.p2, by rw [World.frozen?_of_block (w := w) hbb]; exact h.ls.fB 2⟩
  · have := h.ap j hm
    rcases hj with hj | hj
    · exact this.1 hj
    · exact this.2 hj
  · rcases hlm j hj with e | e
    · exact h.ap j e
    · exact ⟨fun hk => by have := h.ar.kl j hk; omega, fun hk => by have := (h.ar.chg hk).2; omega⟩
end
theorem fit_setH {t : Sh} (h : FitT t) {x : Nd} (hx : FitK x) : FitT (setH t (freeH t) x) := fun j n hn => by
  rw [setH_at] at hn
  split at hn
  · cases hn; exact hx
  · exact h j n hn
theorem live_some : ∀ (s : Sh) (k : Int) {i : Nat}, s[i]? = some none → (liveF k s).length < s.length
  | [], _, i, h => by simp at h
  | none :: s, k, i, h => by rw [liveF, List.length_cons]; have := liveF_len s (k + 1); omega
  | some _ :: s, k, 0, h => by simp at h
  | some _ :: s, k, i + 1, h => by
    rw [liveF, List.length_cons, List.length_cons]
    have := live_some s (k + 1) (i := i) (by simpa using h)
    omega
theorem full_iff {room : Nat} {t : Sh} (hl : t.length ≤ room) : room < freeH t ↔ room ≤ (liveA t).length := by
  have h1 := liveF_len t 1
  have h2 := freeH_pos t
  constructor
  · intro h
    have e : t.length = room := by omega
    rcases freeH_cases t with ⟨i, hi, e'⟩ | ⟨e', hn⟩
    · have := (List.getElem?_eq_some_iff.1 hi).1; omega
    · have := live_all t 1 hn
      unfold liveA; omega
  · intro h
    rcases freeH_cases t with ⟨i, hi, e'⟩ | ⟨e', hn⟩
    · exfalso
      have := live_some t 1 hi
      unfold liveA at h; omega
    · unfold liveA at h; omega
end Go.Proofs.YtjgjacihdggimaaGreatDoor
namespace Go.Proofs.YtjgjacihdggimaaGreatDoor
open Go.RowKit Go.Maps
def PutR (W0 : World) (B X : Nat) (x : Nd) (wx : World) : Prop := ∃ R cR C cC, At4 wx X 0 x R cR C cC ∧ RowI wx (fun g => W0.heap.size ≤ g) R x.refs ∧ RowI wx (fun g => W0.heap.size ≤ g) C x.nums ∧ Below B W0 wx ∧ ∀ j, wx.frozen? ⟨X, j, none⟩ = false
theorem at4_set {w : World} {X : Nat} {n x : Nd} {A B R C : Option Addr} {ca cb cR cC : Nat} (h : At4 w X 0 n A ca B cb) (hk : x.kind = n.kind) (ht : x.text = n.text) :
    At4 ((w.setCell ⟨X, 1, none⟩ (.slice R x.refs.length cR)).setCell ⟨X, 2, none⟩ (.slice C x.nums.length cC)) X 0 x R cR C cC := by
  obtain ⟨h0, h1, h2, h3⟩ := h
  refine ⟨?_, ?_, ?_, ?_⟩
  · rw [World.cell?_setCell_other _ _ _ _ (by simp), World.cell?_setCell_other _ _ _ _ (by simp), h0, hk]
  · rw [World.cell?_setCell_other _ _ _ _ (by simp)]; exact World.cell?_setCell_same _ _ _ h1
  · exact World.cell?_setCell_same _ _ _ ((World.cell?_setCell_other _ _ _ _ (by simp)).trans h2)
  · rw [World.cell?_setCell_other _ _ _ _ (by simp), World.cell?_setCell_other _ _ _ _ (by simp), h3, ht]
def PutQ (w w' : World) (K : Nat → Prop) (a room : Nat) (t' : Sh) (A : Option Addr) (bK b : Nat) (out lds : List Int) (vH vL : Value) (base : Nat) : Prop :=
  ∃ K' ps' A' cS' low' vH' vL', PSt w' K' a room ps' t' A' cS' bK low' b out lds vH' vL' base ∧ (∀ g, K g → K' g) ∧ (∀ g, K' g → K g ∨ w.heap.size ≤ g) ∧ (∀ g, Chg a bK A' g → Chg a bK A g ∨ w.heap.size ≤ g) ∧ (∀ g, LM b vH' vL' g → LM b vH vL g ∨ w.heap.size ≤ g) ∧ ButS (fun g => Chg a bK A g ∨ LM b vH vL g) w w'
def Put9 (w w' : World) (e : Ending) (K : Nat → Prop) (a room : Nat) (ps : List (Option Nat)) (t : Sh) (SA : Option Addr) (cS bK low b : Nat) (out lds : List Int) (vH vL : Value) (base : Nat) (x : Nd) : Prop :=
  (e = .returned (.bool false) ∧ oneA room t x = none ∧ PSt w' K a room ps t SA cS bK low b out lds vH vL base ∧ Below w.heap.size w w') ∨
  (e = .returned (.bool true) ∧ ∃ t' k, oneA room t x = some (t', k) ∧ PutQ w w' K a room t' SA bK b (out ++ [k]) (if fnd t x ≠ 0 then lds else lds ++ [k]) vH vL base)
theorem fit_put {n : Nd} {out : List Int} (hf : FitK n) (ho : ∀ h ∈ out, 0 ≤ h ∧ h ≤ 65536) (hr : ∀ r ∈ n.refs, -(out.length : Int) ≤ r) : FitK (asPut out n) := by
  obtain ⟨⟨f1, f2, f3⟩, f4, f5⟩ := hf
  refine ⟨⟨by show (n.refs.map _).length ≤ 200; rw [List.length_map]; exact f1, f2, f3⟩, fun x hx => ?_, f5⟩
  obtain ⟨r, hr', rfl⟩ := List.mem_map.1 hx
  unfold resolve
  split
  · have := hr r hr'
    have hk : (-1 - r).toNat < out.length := by omega
    have := ho _ (List.getElem_mem hk)
    rw [List.getD_eq_getElem?_getD, List.getElem?_eq_getElem hk]
    simp only [Option.getD_some]
    omega
  · exact f4 r hr'
set_option maxHeartbeats 32000000 in
set_option maxRecDepth 10000 in
theorem pput_any {w : World} {K : Nat → Prop} {a room : Nat} {ps : List (Option Nat)} {t : Sh} {SA : Option Addr} {cS bK low b : Nat} {out lds : List Int} {vH vL : Value} {base : Nat} (hP : PSt w K a room ps t SA cS bK low b out lds vH vL base) (h1 : ∀ h k n, ndAt t h = some n → ndAt t k = some n → h = k)
    {n : Nd} {A C : Option Addr} {ca cc : Nat} {P : Nat → Prop} (hA : RowI w P A n.refs) (hC : RowI w P C n.nums) (hf : FitK n) (ho : out.length ≤ 100000) (hlo : lds.length ≤ 100000) (hoh : ∀ h ∈ out, 0 ≤ h ∧ h ≤ 65536) (hr : ∀ r ∈ n.refs, -(out.length : Int) ≤ r)
    {Bs : Nat} (hE : ∀ w', Below Bs w w' → TabE w') (hBs : Bs ≤ w.heap.size) (hCB : ∀ g, Chg a bK SA g → Bs ≤ g) (hbase : base ≤ w.heap.size) :
    Calls Tryz.prog 67 #[.pointer (some ⟨b, 0, none⟩), ndV n A ca C cc] w fun e w' =>
      Put9 w w' e K a room ps t SA cS bK low b out lds vH vL base (asPut out n) := by
  have hfx := fit_put hf hoh hr
  have hl := hf.1.1
  have hn := hf.1.2.1
  obtain ⟨H, cH, hvH, hQ⟩ : ∃ H cH, vH = .slice H out.length cH ∧ RowI w (fun _ => True) H out := by
    obtain ⟨H, cH, e, _, hc⟩ := OwnR.shape (f := inW) (n := 1) (fun _ => rfl) hP.ls.oH
    refine ⟨H, cH, e, ?_⟩
    by_cases hne : out = []
    · exact .inl hne
    · obtain ⟨g, o, e', hat⟩ := hc hne
      refine .inr ⟨g, o, e', trivial, ?_, fun i x hi => by have := hat i x hi 0 _ rfl; simpa using this⟩
      exact hP.ls.lt (.inr (.inl (by rw [e, e']; rfl)))
  have hH : w.cell? ⟨b, 1, none⟩ = some (.slice H out.length cH) := by rw [← hvH]; exact hP.ls.p1
  have HP := Lib.hid hP
  have HFx := Lib.hid hfx
  have HTE := Lib.hid hE
  have HCB := Lib.hid hCB
  have H1 := Lib.hid h1
  have hwd := hP.ar.wide
  have HvH := Lib.hid hvH
  clear hP hf hoh hE hCB h1 hfx hvH
  have hba : Below w.heap.size w (w.alloc (.cells #[.int .i64 n.kind, .slice A n.refs.length ca, .slice C n.nums.length cc, .string ⟨n.text.toArray⟩] 126)) := (Below.refl _ _).alloc (Nat.le_refl _) _
  have hblk := (MapKept.heap_alloc w (.cells #[.int .i64 n.kind, .slice A n.refs.length ca, .slice C n.nums.length cc, .string ⟨n.text.toArray⟩] 126)).1
  have hN0 : At4 (w.alloc (.cells #[.int .i64 n.kind, .slice A n.refs.length ca, .slice C n.nums.length cc, .string ⟨n.text.toArray⟩] 126)) w.heap.size 0 n A ca C cc :=
    ⟨by rw [Lib.cell_of_heap hblk]; rfl, by rw [Lib.cell_of_heap hblk]; rfl, by rw [Lib.cell_of_heap hblk]; rfl, by rw [Lib.cell_of_heap hblk]; rfl⟩
  have hF0 : ∀ j, (w.alloc (.cells #[.int .i64 n.kind, .slice A n.refs.length ca, .slice C n.nums.length cc, .string ⟨n.text.toArray⟩] 126)).frozen? ⟨w.heap.size, j, none⟩ = false := fun j => by unfold World.frozen?; rw [hblk]; simp
  have hsz : (w.alloc (.cells #[.int .i64 n.kind, .slice A n.refs.length ca, .slice C n.nums.length cc, .string ⟨n.text.toArray⟩] 126)).heap.size = w.heap.size + 1 := by simp
  have hH0 := keep_cell hba hH
  have hQ0 := hQ.below hba
  have hA0 := hA.below hba
  have hC0 := hC.below hba
  have HF0 := Lib.hid hF0
  have HN0 := Lib.hid hN0
  have HSz := Lib.hid hsz
  have HRl : Hid (n.refs.length = (asPut out n).refs.length) := Lib.hid (by show _ = (n.refs.map _).length; rw [List.length_map])
  have HBa := Lib.hid hba
  clear hH hQ hA hC hba hblk hN0 hF0 hsz
  unfold ndV
  go_enter Tryz.func67, Tryz.ntmps67
  go_upto_region 1 with fail
  generalize w.alloc (.cells #[.int .i64 n.kind, .slice A n.refs.length ca, .slice C n.nums.length cc, .string ⟨n.text.toArray⟩] 126) = W0 at *
  have HR := Lib.hid (fun w' (hb : Below W0.heap.size W0 w') => presolved_any (ca := ca) (keep_cell hb hH0) (hQ0.below hb) (hA0.below hb) hl ho hr)
  have HC := Lib.hid (fun w' (hb : Below W0.heap.size W0 w') => pclone_row n.nums C cc w' P (hC0.below hb) (by omega))
  have n1 := HN0.out.2.1
  have n2 := HN0.out.2.2.1
  have hzX : w.heap.size < W0.heap.size := by rw [HSz.out]; omega
  clear hH0 hQ0 hA0 hC0
  go_cut [10] from 7 to 15 (fun s10 wx => PutR W0 w.heap.size w.heap.size (asPut out n) wx)
  case first =>
    go_region_law (first
      | (go_simp; go_at_call 81
         refine (HR.out _ (by with_reducible repeat' (first | exact Below.refl _ _ | refine Below.drew ?_))).mono ?_; rintro e w1 ⟨R, cR, rfl, hR1, hb1'⟩
         have hb1 : Below W0.heap.size W0 w1 := by first | exact hb1' | exact (Below.drew (Below.refl W0.heap.size W0)).trans hb1'
         have y1 := keep_cell hb1 n1
         have y2 := keep_cell hb1 n2)
      | (go_simp; go_at_call 77
         refine (HC.out _ hb1).mono ?_; rintro e w2 ⟨C2, cC, rfl, hC2, hb2'⟩
         have hb2 : Below W0.heap.size W0 w2 := hb1.trans (hb2'.mono hb1.size)
         have z1 := keep_cell hb2 n1
         have z2 := keep_cell hb2 n2
         have f1 : w2.frozen? ⟨w.heap.size, 1, none⟩ = false := keep_frozen hb2 hzX (HF0.out 1)
         have f2 : w2.frozen? ⟨w.heap.size, 2, none⟩ = false := keep_frozen hb2 hzX (HF0.out 2)))
    all_goals
      go_wp2_with fail
      go_meet
      case rel =>
        have hst : ∀ k, k ≠ w.heap.size → ((w2.setCell ⟨w.heap.size, 1, none⟩ (.slice R n.refs.length cR)).setCell ⟨w.heap.size, 2, none⟩ (.slice C2 n.nums.length cC)).heap[k]? = w2.heap[k]? := fun k hk => (Below.heap_setCell _ ⟨w.heap.size, 2, none⟩ _ k hk).trans (Below.heap_setCell _ ⟨w.heap.size, 1, none⟩ _ k hk)
        exact ⟨R, cR, C2, cC, by have := at4_set (x := asPut out n) (R := R) (C := C2) (cR := cR) (cC := cC) (⟨keep_cell hb2 HN0.out.1, z1, z2, keep_cell hb2 HN0.out.2.2.2⟩ : At4 w2 w.heap.size 0 n A ca C cc) rfl rfl; rw [← HRl.out] at this; exact this, ((hR1.below hb2').mono fun g hg _ => hg).kept ⟨by simp, fun k hk _ => hst k (by have h : W0.heap.size ≤ k := hk; omega)⟩, (hC2.mono fun g hg _ => Nat.le_trans hb1.size hg).kept ⟨by simp, fun k hk _ => hst k (by have h : W0.heap.size ≤ k := hk; omega)⟩, ((hb2.mono (Nat.le_of_lt hzX)).setCell (Nat.le_refl _) _).setCell (Nat.le_refl _) _, fun j => by rw [World.frozen?_setCell, World.frozen?_setCell]; exact keep_frozen hb2 hzX (HF0.out j)⟩
  case rest =>
    obtain ⟨R, cR, C2, cC, hx4, hxr, hxn, hbc, hfc⟩ := hcut
    have hbw : Below w.heap.size w wc := HBa.out.trans hbc
    have hszc : W0.heap.size ≤ wc.heap.size := hbc.size
    have hlo2 : ∀ g, g < w.heap.size → ¬ (w.heap.size ≤ g ∧ g < wc.heap.size) := fun g h1 h2 => by omega
    have HP2 : Hid (PSt wc (fun g => K g ∨ (w.heap.size ≤ g ∧ g < wc.heap.size)) a room ps t SA cS bK low b out lds vH vL base) := Lib.hid ⟨(HP.out.ar.below hbw).mono (fun g hg _ => .inl hg) (fun e => e.elim HP.out.ar.ka (hlo2 a HP.out.ar.lA)) (fun e => e.elim HP.out.ar.kb (hlo2 bK HP.out.ar.lB)) (fun g o e e' => e'.elim (HP.out.ar.ks g o e).1 (hlo2 g (HP.out.ar.lS e))) (fun g hg => hg.elim (fun h => Nat.lt_of_lt_of_le (HP.out.ar.kl g h) hbw.size) fun h => h.2), HP.out.lk, HP.out.ft, HP.out.ls.below hbw, fun g hg => ⟨fun e => e.elim (HP.out.ap g hg).1 (hlo2 g (HP.out.ls.lt hg)), (HP.out.ap g hg).2⟩⟩
    have HRr : Hid (RowI wc (fun g => K g ∨ (w.heap.size ≤ g ∧ g < wc.heap.size)) R (asPut out n).refs) := Lib.hid (hxr.mono fun g hg hl => .inr ⟨by omega, hl⟩)
    have HRn : Hid (RowI wc (fun g => K g ∨ (w.heap.size ≤ g ∧ g < wc.heap.size)) C2 (asPut out n).nums) := Lib.hid (hxn.mono fun g hg hl => .inr ⟨by omega, hl⟩)
    have HX4 := Lib.hid hx4
    have HBw := Lib.hid hbw
    have hXc : w.heap.size < wc.heap.size := by omega
    clear hx4 hxr hxn hbc hfc hbw hlo2 HN0 HF0 HR HC n1 n2
    generalize hxe : asPut out n = x at *
    have HXe := Lib.hid hxe
    clear hxe
    have HTc : Hid (∀ w', Below wc.heap.size wc w' → TabE w') := Lib.hid fun w' hb => HTE.out w' ((HBw.out.mono hBs).trans (hb.mono (by omega)))
    have HLk := Lib.hid (fun w' (hb : Below wc.heap.size wc w') => look_of (K := fun g => K g ∨ (w.heap.size ≤ g ∧ g < wc.heap.size)) (NdAt.kept ⟨.inr ⟨Nat.le_refl _, hXc⟩, R, cR, C2, cC, HX4.out, HRr.out, HRn.out⟩ (Kept.of_below hb)) HFx.out (HTc.out w' hb))
    have HLo := Lib.hid (fun w' (hb : Below wc.heap.size wc w') => (HP2.out.ar.below hb).map.look HP2.out.ft H1.out HFx.out)
    have p0 := HP2.out.ls.p0
    have c2 := HP2.out.ar.c2
    have HS2 := Lib.hid (fun w' (hb : Below wc.heap.size wc w') => (show (w'.cell? ⟨b, 0, none⟩ = some (.pointer (some ⟨a, 0, none⟩)) ∧ w'.cell? ⟨a, 2, none⟩ = some (.map (some bK))) from ⟨keep_cell hb p0, keep_cell hb c2⟩))
    clear p0 c2
    obtain ⟨i0, hi0, hz0, hz1, hz2⟩ := info_parts int_info
    by_cases hf : fnd t x = 0
    · have hd : decide (fnd t x ≠ 0) = false := decide_eq_false (fun h => h hf)
      rw [hd] at HLo
      go_wp2_with fail
      go_region_held3 (fun w' => w'.cell? ⟨b, 0, none⟩ = some (.pointer (some ⟨a, 0, none⟩)) ∧ w'.cell? ⟨a, 2, none⟩ = some (.map (some bK)))
        (first | with_reducible exact HS2.out _ (by with_reducible repeat' (first | exact Below.refl _ _ | exact hb8 | refine Below.drew ?_)) | fail)
        (first
        | (have hG := HLk; clear HLk; go_at_call 82
           refine (hG.out _ (by with_reducible repeat' (first | exact Below.refl _ _ | refine Below.drew ?_))).mono ?_; rintro e w8 ⟨rfl, hb8'⟩
           have hb8 : Below wc.heap.size wc w8 := by first | exact hb8' | exact (Below.drew (Below.refl wc.heap.size wc)).trans hb8'
           have hlk := HLo.out w8 hb8
           clear hG hb8')
        | fail)
      have HP8 := Lib.hid (HP2.out.below hb8)
      have HB8 : Hid (Below wc.heap.size wc w8) := Lib.hid hb8
      clear hb8 hlk HS2

      have h0 : ∀ k, ndAt t k ≠ some x := fun k hk => by
        obtain ⟨i, rfl, hi⟩ := ndAt_some hk
        exact fnd_zero hf i hi
      have HH0 := Lib.hid h0
      have HF0 := Lib.hid hf
      clear hd HLo h0 hf
      go_wp2_with fail
      have p0 := HP8.out.ls.p0
      refine (pfull_any HP8.out.ar).mono ?_; rintro e w9 ⟨rfl, hb9⟩
      have HP9 := Lib.hid (HP8.out.below hb9)
      have HB9 := Lib.hid (HB8.out.trans (hb9.mono HB8.out.size))
      have HB9w : Hid (Below w.heap.size w w9) := Lib.hid (HBw.out.trans (HB9.out.mono (Nat.le_of_lt hXc)))
      clear hb9
      by_cases hfu : room ≤ (liveA t).length
      · have df : decide (room ≤ (liveA t).length) = true := decide_eq_true hfu
        have HOn : Hid (oneA room t x = none) := Lib.hid (by unfold oneA; rw [if_neg (fun h => h HF0.out), if_pos ((full_iff HP9.out.ar.len).2 hfu)])
        have HPo := Lib.hid (HP.out.below HB9w.out)
        clear hfu
        go_wp2_with fail
        go_ret
        rw [HXe.out]
        exact .inl ⟨rfl, HOn.out, HPo.out, HB9w.out⟩
      · have hfree : (liveA t).length < room := by omega
        have df : decide (room ≤ (liveA t).length) = false := decide_eq_false hfu
        have HOn : Hid (oneA room t x = some (setH t (freeH t) x, (freeH t : Int))) := Lib.hid (by unfold oneA; rw [if_neg (fun h => h HF0.out), if_neg (fun h => absurd ((full_iff HP9.out.ar.len).1 h) (by omega))])
        have hbc9 : Below wc.heap.size wc w9 := HB9.out
        have HLay := Lib.hid (fun w' (hb : Below w9.heap.size w9 w') => play_any (HP9.out.ar.below hb) HP9.out.lk HP9.out.ft x (B := R) (C := C2) (cb := cR) (cc := cC) ((HRr.out.below hbc9).below hb) ((HRn.out.below hbc9).below hb) HFx.out HH0.out hfree (Bs := Bs) (fun w'' h => HTE.out w'' ((HB9w.out.mono hBs).trans ((hb.mono (Nat.le_trans hBs HB9w.out.size)).trans h))) (Nat.le_trans (Nat.le_trans hBs HB9w.out.size) hb.size) HCB.out)
        have hbn := (HP9.out.ap b (.inl rfl)).2
        have hXn : ¬ Chg a bK SA w.heap.size := fun e => (HP9.out.ar.chg e).1 (.inr ⟨Nat.le_refl _, hXc⟩)
        have p0 := HP9.out.ls.p0
        have q0 : w9.cell? ⟨w.heap.size, 0, none⟩ = some (.int .i64 x.kind) := keep_cell hbc9 HX4.out.1
        have q1 : w9.cell? ⟨w.heap.size, 1, none⟩ = some (.slice R x.refs.length cR) := keep_cell hbc9 HX4.out.2.1
        have q2 : w9.cell? ⟨w.heap.size, 2, none⟩ = some (.slice C2 x.nums.length cC) := keep_cell hbc9 HX4.out.2.2.1
        have q3 : w9.cell? ⟨w.heap.size, 3, none⟩ = some (.string ⟨x.text.toArray⟩) := keep_cell hbc9 HX4.out.2.2.2
        have HS6 := Lib.hid (fun w' (hb : ButS (Chg a bK SA) w9 w') => (show (w'.cell? ⟨b, 0, none⟩ = some (.pointer (some ⟨a, 0, none⟩)) ∧ w'.cell? ⟨w.heap.size, 0, none⟩ = some (.int .i64 x.kind) ∧ w'.cell? ⟨w.heap.size, 1, none⟩ = some (.slice R x.refs.length cR) ∧ w'.cell? ⟨w.heap.size, 2, none⟩ = some (.slice C2 x.nums.length cC) ∧ w'.cell? ⟨w.heap.size, 3, none⟩ = some (.string ⟨x.text.toArray⟩)) from ⟨hb.cell hbn p0, hb.cell hXn q0, hb.cell hXn q1, hb.cell hXn q2, hb.cell hXn q3⟩))
        unfold ndV at HLay
        clear p0 q0 q1 q2 q3 hbn hXn hbc9 hfree hfu
        go_wp2_with fail
        clear df
        go_region_held3 (fun w' => w'.cell? ⟨b, 0, none⟩ = some (.pointer (some ⟨a, 0, none⟩)) ∧ w'.cell? ⟨w.heap.size, 0, none⟩ = some (.int .i64 x.kind) ∧ w'.cell? ⟨w.heap.size, 1, none⟩ = some (.slice R x.refs.length cR) ∧ w'.cell? ⟨w.heap.size, 2, none⟩ = some (.slice C2 x.nums.length cC) ∧ w'.cell? ⟨w.heap.size, 3, none⟩ = some (.string ⟨x.text.toArray⟩))
          (first | with_reducible exact HS6.out _ (by with_reducible repeat' (first | exact ButS.refl _ _ | exact hs10 | refine ButS.drew ?_)) | fail)
          (first
          | (have hG := HLay; clear HLay; go_at_call 84
             refine (hG.out _ (by with_reducible repeat' (first | exact Below.refl _ _ | refine Below.drew ?_))).mono ?_; rintro e w10 ⟨rfl, ps', A', cS', low', hA', hL', hC', hb10'⟩
             have hs10 : ButS (Chg a bK SA) w9 w10 := by first | exact hb10' | exact ((ButS.refl _ w9).drew).trans hb10'
             clear hG hb10')
          | fail)
        have HP10 : Hid (PSt w10 (fun g => (K g ∨ (w.heap.size ≤ g ∧ g < wc.heap.size)) ∨ g = w9.heap.size) a room ps' (setH t (freeH t) x) A' cS' bK low' b out lds vH vL base) := Lib.hid ⟨hA', hL', fit_setH HP9.out.ft HFx.out, HP9.out.ls.kept (hs10.keptQ fun g hg => (HP9.out.ap g hg).2), fun g hg => ⟨fun e => e.elim (HP9.out.ap g hg).1 (fun e => by have := HP9.out.ls.lt hg; omega), fun e => (hC' g e).elim (HP9.out.ap g hg).2 (fun e => by have h := HP9.out.ls.lt hg; have h' : w9.heap.size < g := e; omega)⟩⟩
        have HB10 : Hid (ButS (Chg a bK SA) w w10) := Lib.hid ((ButS.of_below HB9w.out).trans hs10)
        have HC10 : Hid (∀ g, Chg a bK A' g → Chg a bK SA g ∨ w.heap.size ≤ g) := Lib.hid fun g hg => (hC' g hg).imp id (fun e => by have h' : w9.heap.size < g := e; have := HB9w.out.size; omega)
        clear hA' hL' hC' hs10 HS6
        generalize hfH : (freeH t : Int) = fH at *
        have HfH := Lib.hid hfH
        clear hfH
        have HPa := Lib.hid (HP10.out.below ((Below.refl _ _).alloc (Nat.le_refl _) (.cells #[.int .i64 fH] 3)))
        have pX := HP10.out.ls.p2
        have hszX : w.heap.size ≤ w10.heap.size := HB10.out.size
        go_wp2_with (at_builtin; refine of_stop ?_)
        refine stop_of ?_
        refine wpList_append_rows (f := inW) (n := 1) (E := 3) (nb := 8) (X := lds) (base := base) rfl _ _ rfl rfl HPa.out.ls.oL (L2 := [fH]) rfl (one_row w10 fH) (by simp) (N := lds.length + 1) (by simp) (Z := lds ++ [fH]) rfl Tryz.underlying54 hi0 hz0 hz1 hz2 rfl (by decide) (by decide) (fun _ => rfl) inW_one (by omega) (by simp; omega) ?_
        intro g11 k11 w11 ho11 hg11 hat11 hl11
        obtain ⟨hp11, hbt11, hlm11, y11, z11⟩ := HPa.out.appL ho11 hg11 hat11
        have HP11 := Lib.hid hp11
        have HBt11 := Lib.hid ((ButS.of_below ((Below.refl _ _).alloc (Nat.le_refl _) (.cells #[.int .i64 fH] 3))).trans hbt11)
        have HLm11 := Lib.hid hlm11
        clear ho11 hg11 hat11 hl11 hp11 hbt11 hlm11 HPa pX
        have HB11 : Hid (ButS (fun g => Chg a bK SA g ∨ LM b vH vL g) w (w11.setCell ⟨b, 2, none⟩ (.slice (some ⟨g11, 0, none⟩) (lds.length + 1) k11))) := Lib.hid ((HB10.out.mono fun g hg => .inl hg).trans (HBt11.out.mono fun g hg => .inr hg))
        have HL11 : Hid (∀ j, LM b vH (.slice (some ⟨g11, 0, none⟩) (lds.length + 1) k11) j → LM b vH vL j ∨ w.heap.size ≤ j) := Lib.hid fun j hj => (HLm11.out j hj).imp id fun h => by simp at h; omega
        clear HBt11 HLm11 hszX
        go_upto_region 8 with fail
        clear y11 z11
        generalize w11.setCell ⟨b, 2, none⟩ (.slice (some ⟨g11, 0, none⟩) (lds.length + 1) k11) = w12 at *
        have HPa := Lib.hid (HP11.out.below ((Below.refl _ _).alloc (Nat.le_refl _) (.cells #[.int .i64 fH] 3)))
        have pX := HP11.out.ls.p1
        have hszX : w.heap.size ≤ w12.heap.size := HB11.out.size
        go_wp2_with (at_builtin; refine of_stop ?_)
        refine stop_of ?_
        refine wpList_append_rows (f := inW) (n := 1) (E := 3) (nb := 8) (X := out) (base := base) rfl _ _ rfl rfl HPa.out.ls.oH (L2 := [fH]) rfl (one_row w12 fH) (by simp) (N := out.length + 1) (by simp) (Z := out ++ [fH]) rfl Tryz.underlying54 hi0 hz0 hz1 hz2 rfl (by decide) (by decide) (fun _ => rfl) inW_one (by omega) (by simp; omega) ?_
        intro g13 k13 w13 ho13 hg13 hat13 hl13
        obtain ⟨hp13, hbt13, hlm13, y13, z13⟩ := HPa.out.appH ho13 hg13 hat13
        have HP13 := Lib.hid hp13
        have HBt13 := Lib.hid ((ButS.of_below ((Below.refl _ _).alloc (Nat.le_refl _) (.cells #[.int .i64 fH] 3))).trans hbt13)
        have HLm13 := Lib.hid hlm13
        clear ho13 hg13 hat13 hl13 hp13 hbt13 hlm13 HPa pX
        go_wp2_with fail
        go_ret
        rw [HXe.out]
        refine .inr ⟨rfl, setH t (freeH t) x, fH, HOn.out, (fun g => (K g ∨ (w.heap.size ≤ g ∧ g < wc.heap.size)) ∨ g = w9.heap.size), ps', A', cS', low', .slice (some ⟨g13, 0, none⟩) (out.length + 1) k13, .slice (some ⟨g11, 0, none⟩) (lds.length + 1) k11, ?_, fun g hg => .inl (.inl hg), fun g hg => ?_, HC10.out, fun g hg => ?_, ?_⟩
        · rw [if_neg (fun h => h HF0.out)]; exact HP13.out
        · rcases hg with (hg | hg) | hg
          · exact .inl hg
          · exact .inr hg.1
          · exact .inr (by rw [hg]; exact HB9w.out.size)
        · rcases HLm13.out g hg with h | h
          · exact HL11.out g h
          · exact .inr (by simp at h; omega)
        · refine HB11.out.trans' HBt13.out fun g hl hg => ?_
          rcases HL11.out g hg with h | h
          · exact .inr h
          · omega
    · have hd : decide (fnd t x ≠ 0) = true := decide_eq_true hf
      rw [hd] at HLo
      go_wp2_with fail
      go_region_held3 (fun w' => w'.cell? ⟨b, 0, none⟩ = some (.pointer (some ⟨a, 0, none⟩)) ∧ w'.cell? ⟨a, 2, none⟩ = some (.map (some bK)))
        (first | with_reducible exact HS2.out _ (by with_reducible repeat' (first | exact Below.refl _ _ | exact hb8 | refine Below.drew ?_)) | fail)
        (first
        | (have hG := HLk; clear HLk; go_at_call 82
           refine (hG.out _ (by with_reducible repeat' (first | exact Below.refl _ _ | refine Below.drew ?_))).mono ?_; rintro e w8 ⟨rfl, hb8'⟩
           have hb8 : Below wc.heap.size wc w8 := by first | exact hb8' | exact (Below.drew (Below.refl wc.heap.size wc)).trans hb8'
           have hlk := HLo.out w8 hb8
           clear hG hb8')
        | fail)
      have HP8 := Lib.hid (HP2.out.below hb8)
      have HB8 : Hid (Below wc.heap.size wc w8) := Lib.hid hb8
      clear hb8 hlk HS2
      have HOn : Hid (oneA room t x = some (t, (fnd t x : Int))) := Lib.hid (by unfold oneA; rw [if_pos hf])
      have HB8' : Hid (Below w.heap.size w w8) := Lib.hid (HBw.out.trans (HB8.out.mono (Nat.le_of_lt hXc)))
      have HFn := Lib.hid hf
      clear hf HLo hd
      generalize hfH : (fnd t x : Int) = fH at *
      have HfH := Lib.hid hfH
      clear hfH
      go_upto_region 8 with fail
      have HPa := Lib.hid (HP8.out.below ((Below.refl _ _).alloc (Nat.le_refl _) (.cells #[.int .i64 fH] 3)))
      have pX := HP8.out.ls.p1
      have hszX : w.heap.size ≤ w8.heap.size := HB8'.out.size
      go_wp2_with (at_builtin; refine of_stop ?_)
      refine stop_of ?_
      refine wpList_append_rows (f := inW) (n := 1) (E := 3) (nb := 8) (X := out) (base := base) rfl _ _ rfl rfl HPa.out.ls.oH (L2 := [fH]) rfl (one_row w8 fH) (by simp) (N := out.length + 1) (by simp) (Z := out ++ [fH]) rfl Tryz.underlying54 hi0 hz0 hz1 hz2 rfl (by decide) (by decide) (fun _ => rfl) inW_one (by omega) (by simp; omega) ?_
      intro g13 k13 w13 ho13 hg13 hat13 hl13
      obtain ⟨hp13, hbt13, hlm13, y13, z13⟩ := HPa.out.appH ho13 hg13 hat13
      have HP13 := Lib.hid hp13
      have HBt13 := Lib.hid ((ButS.of_below ((Below.refl _ _).alloc (Nat.le_refl _) (.cells #[.int .i64 fH] 3))).trans hbt13)
      have HLm13 := Lib.hid hlm13
      clear ho13 hg13 hat13 hl13 hp13 hbt13 hlm13 HPa pX
      go_wp2_with fail
      go_ret
      rw [HXe.out]
      refine .inr ⟨rfl, t, fH, HOn.out, (fun g => K g ∨ (w.heap.size ≤ g ∧ g < wc.heap.size)), ps, SA, cS, low, .slice (some ⟨g13, 0, none⟩) (out.length + 1) k13, vL, ?_, fun g hg => .inl hg, fun g hg => ?_, fun g hg => .inl hg, fun g hg => ?_, ?_⟩
      · rw [if_pos HFn.out]; exact HP13.out
      · rcases hg with hg | hg
        · exact .inl hg
        · exact .inr hg.1
      · rcases HLm13.out g hg with h | h
        · exact .inl h
        · exact .inr (by simp at h; omega)
      · exact (ButS.of_below HB8'.out).trans (HBt13.out.mono fun g hg => .inr hg)
end Go.Proofs.YtjgjacihdggimaaGreatDoor
namespace Go.Proofs.YtjgjacihdggimaaGreatDoor
open Go.RowKit Go.Maps
def Took (t t' : Sh) (l : List Int) : Prop := ∀ h, ndAt t' h = if h ∈ l then none else ndAt t h
theorem Took.nil (t : Sh) : Took t t [] := fun h => by simp
theorem Took.one {t t' : Sh} {l : List Int} (h : Took t t' l) {i : Nat} {r : Int} (hr : r = (i : Int) + 1) : Took t (clr t' i) (l ++ [r]) := fun j => by
  rw [clr_at, h j]
  by_cases e : j = (i : Int) + 1
  · rw [if_pos e, if_pos (by simp; exact .inr (by omega))]
  · rw [if_neg e]
    have : j ≠ r := by omega
    simp [this]
set_option maxHeartbeats 16000000 in
set_option maxRecDepth 10000 in
theorem pundo_any {w : World} {K : Nat → Prop} {a room : Nat} {ps : List (Option Nat)} {t : Sh} {A : Option Addr} {cS bK low b : Nat} {out lds : List Int} {vH vL : Value} {base : Nat} (hP : PSt w K a room ps t A cS bK low b out lds vH vL base) (h1 : ∀ h k n, ndAt t h = some n → ndAt t k = some n → h = k) (hnd : lds.Nodup) (hlv : ∀ h ∈ lds, live t h = true) (hll : lds.length ≤ 100000)
    {Bs : Nat} (hE : ∀ w', Below Bs w w' → TabE w') (hBs : Bs ≤ w.heap.size) (hCB : ∀ g, Chg a bK A g → Bs ≤ g) :
    Calls Tryz.prog 68 #[.pointer (some ⟨b, 0, none⟩)] w fun e w' => e = .returned (.tuple #[]) ∧ ∃ ps' t' low', AR w' K a room ps' t' t' A cS bK low' ∧ LowK t' low' ∧ FitT t' ∧ Took t t' lds ∧ ButS (Chg a bK A) w w' := by
  obtain ⟨L, cL, hvL, _, hc⟩ := OwnR.shape (f := inW) (n := 1) (fun _ => rfl) hP.ls.oL
  have hcell : ∀ (i : Nat) (x : Int), lds[i]? = some x → ∃ g o, L = some ⟨g, o, none⟩ ∧ vL.ownBlock = some g ∧ w.cell? ⟨g, o + i, none⟩ = some (.int .i64 x) := fun i x hi => by
    obtain ⟨g, o, e, hat⟩ := hc (fun e => by rw [e] at hi; simp at hi)
    exact ⟨g, o, e, by rw [hvL, e]; rfl, by have := hat i x hi 0 _ rfl; simpa using this⟩
  have p2 : w.cell? ⟨b, 2, none⟩ = some (.slice L lds.length cL) := by rw [← hvL]; exact hP.ls.p2
  have HP := Lib.hid hP
  have HC := Lib.hid hcell
  have H1 := Lib.hid h1
  have HNd := Lib.hid hnd
  have HLv := Lib.hid hlv
  have HTE := Lib.hid hE
  have HCB := Lib.hid hCB
  clear hP hcell h1 hnd hlv hE hCB hc hvL
  go_enter Tryz.func68, Tryz.ntmps68
  go_wp2_with fail
  go_loopw [3, 9] (fun _ vi wr => ∃ (i : Nat) (ps' : List (Option Nat)) (t' : Sh) (low' : Nat), i ≤ lds.length ∧ vi = .int .i64 (i : Int) ∧ Hid (AR wr K a room ps' t' t' A cS bK low') ∧ Hid (LowK t' low') ∧ Hid (FitT t') ∧ Hid (Took t t' (lds.take i)) ∧ Hid (ButS (Chg a bK A) w wr)) (fun _ vi _ => lds.length - (RowKit.intOf vi).toNat)
  case atStart => exact ⟨0, ps, t, low, Nat.zero_le _, rfl, Lib.hid HP.out.ar, Lib.hid HP.out.lk, Lib.hid HP.out.ft, Lib.hid (Took.nil t), Lib.hid (ButS.refl _ _)⟩
  case round =>
    obtain ⟨i, ps', t', low', hi, rfl, HA, HL, HF, HT, HB⟩ := hrel
    by_cases hlt : i < lds.length
    · obtain ⟨r, hr⟩ : ∃ r, lds[i]? = some r := ⟨_, List.getElem?_eq_getElem hlt⟩
      obtain ⟨g, o, rfl, hg, q⟩ := HC.out i r hr
      have hrm := List.mem_of_getElem? hr
      have hnot : r ∉ lds.take i := fun hm => by
        obtain ⟨j, hj⟩ := List.getElem?_of_mem hm
        have hji : j < i := by have := (List.getElem?_eq_some_iff.1 hj).1; rw [List.length_take] at this; omega
        rw [List.getElem?_take_of_lt hji] at hj
        obtain ⟨h2, e2⟩ := List.getElem?_eq_some_iff.1 hj
        obtain ⟨h3, e3⟩ := List.getElem?_eq_some_iff.1 hr
        exact (List.pairwise_iff_getElem.1 HNd.out j i h2 h3 hji) (e2.trans e3.symm)
      have hlr := live_iff.1 (HLv.out r hrm)
      obtain ⟨x, hx⟩ := hlr
      have hx' : ndAt t' r = some x := by rw [HT.out r, if_neg hnot]; exact hx
      obtain ⟨j, hj, hjx⟩ := ndAt_some hx'
      have h1' : ∀ h k n, ndAt t' h = some n → ndAt t' k = some n → h = k := fun h k n e1 e2 => by
        rw [HT.out h] at e1
        rw [HT.out k] at e2
        split at e1
        · cases e1
        · split at e2
          · cases e2
          · exact H1.out h k n e1 e2
      have q' := HB.out.cell (p := ⟨g, o + i, none⟩) ((HP.out.ap g (.inr (.inr hg))).2) q
      have p0 := HB.out.cell (p := ⟨b, 0, none⟩) ((HP.out.ap b (.inl rfl)).2) HP.out.ls.p0
      have HD := Lib.hid (pdrop_any HA.out HL.out HF.out h1' hjx hj (Bs := Bs) (fun w'' h => HTE.out w'' ((HB.out.below (fun k hk hc => by have := HCB.out k hc; omega) hBs).trans h)) (Nat.le_trans hBs HB.out.size))
      have HT2 : Hid (Took t (clr t' j) (lds.take (i + 1))) := Lib.hid (by rw [List.take_add_one, hr]; exact HT.out.one hj)
      have HF2 := Lib.hid (fit_clr HF.out j)
      clear hr hrm hnot hx hx' hj hjx h1' hg q
      go_wp2_with fail
      refine HD.out.mono ?_; rintro e w2 ⟨rfl, hA2, hL2, hb2⟩
      have HA2 := Lib.hid hA2
      have HL2 := Lib.hid hL2
      have HB2 := Lib.hid (HB.out.trans hb2)
      clear hA2 hL2 hb2
      go_wp2_with fail
      go_roundw
      case rel => exact ⟨i + 1, _, _, _, by omega, by go_num, HA2, HL2, HF2, HT2, HB2⟩
      case measure => simp [RowKit.intOf]; omega
    · have hii : i = lds.length := by omega
      have HT2 : Hid (Took t t' lds) := Lib.hid (by have := HT.out; rwa [List.take_of_length_le (by omega)] at this)
      clear hii
      go_wp2_with fail
      go_end0
      exact ⟨rfl, _, _, _, HA.out, HL.out, HF.out, HT2.out, HB.out⟩
end Go.Proofs.YtjgjacihdggimaaGreatDoor
