/- Texts joined: OaA, OaG, TqH, TqC, TqA. -/
import Derived.Test.YthfbhinlgoaajaaDoorDj10
import Derived.Test.YthfbhinlgoaajaaDoorDj05
import Derived.Test.YthfbhinlgoaajaaDoorDj02
set_option linter.all false
namespace Go.Proofs.YthfbhinlgoaajaaDoor
open Go.RowKit Go.Maps
def TB (B : Nat) (w : World) : Prop := ∀ w', Below B w w' → TabE w'
theorem TB.on {B : Nat} {w w' : World} (h : TB B w) (hb : Below B w w') : TB B w' := fun w'' h' => h w'' (hb.trans h')
def AP9 (B : Nat) (w : World) (F : Nat → Prop) (a room : Nat) (s : Sh) : Prop :=
  ∃ K ps t A cS bK low, AR w K a room ps t t A cS bK low ∧ LowK t low ∧ FitT t ∧ Eqv t s ∧ (∀ g, Own K a bK A g → F g) ∧ (∀ g, Chg a bK A g → B ≤ g) ∧ B ≤ w.heap.size ∧ TB B w
theorem own_lt {w : World} {K : Nat → Prop} {a room cS bK low : Nat} {ps : List (Option Nat)} {t tm : Sh} {A : Option Addr} (h : AR w K a room ps t tm A cS bK low) {g : Nat} (hg : Own K a bK A g) : g < w.heap.size := by
  rcases hg with e | e
  · exact h.kl g e
  · exact (h.chg e).2
theorem inv_eqv {room : Nat} {s t : Sh} (hi : Inv room s) (h : Eqv t s) (hl : t.length ≤ room) : Inv room t :=
  ⟨fun x y n e1 e2 => hi.one x y n (by rw [← h x]; exact e1) (by rw [← h y]; exact e2), fun x n e r hr => by rw [h.liveE]; exact hi.shut x n (by rw [← h x]; exact e) r hr, hl⟩
theorem Eqv.getNE {s t : Sh} (h : Eqv t s) (x : Int) : getN t x = getN s x := by unfold getN; rw [h x]
theorem Eqv.getEE {s t : Sh} (h : Eqv t s) (x : Int) : getE t x = getE s x := by unfold getE; rw [h.liveE]
theorem chg_below {w w' : World} {K : Nat → Prop} {a room cS bK low B : Nat} {ps : List (Option Nat)} {t tm : Sh} {A : Option Addr} (hC : ∀ g, Chg a bK A g → B ≤ g) (hB : B ≤ w.heap.size) (hb : ButS (Chg a bK A) w w') : Below B w w' :=
  hb.below (fun k hk hc => by have := hC k hc; omega) hB
theorem AP9.kept {B : Nat} {w w' : World} {F : Nat → Prop} {a room : Nat} {s : Sh} (h : AP9 B w F a room s) (hk : Kept w w' F) (hb : Below B w w') : AP9 B w' F a room s := by
  obtain ⟨K, ps, t, A, cS, bK, low, hA, hL, hF, hE, hO, hC, hB, hT⟩ := h
  exact ⟨K, ps, t, A, cS, bK, low, hA.kept ⟨hk.size, fun g hg hl => hk.block g (hO g hg) hl⟩, hL, hF, hE, hO, hC, Nat.le_trans hB hk.size, hT.on hb⟩
theorem AP9.mono {B : Nat} {w : World} {F G : Nat → Prop} {a room : Nat} {s : Sh} (h : AP9 B w F a room s) (hm : ∀ g, F g → g < w.heap.size → G g) : AP9 B w G a room s := by
  obtain ⟨K, ps, t, A, cS, bK, low, hA, hL, hF, hE, hO, hC, hB, hT⟩ := h
  exact ⟨K, ps, t, A, cS, bK, low, hA, hL, hF, hE, fun g hg => hm g (hO g hg) (own_lt hA hg), hC, hB, hT⟩
theorem AP9.wide {B : Nat} {w : World} {F : Nat → Prop} {a room : Nat} {s : Sh} (h : AP9 B w F a room s) : room ≤ 65536 := by
  obtain ⟨K, ps, t, A, cS, bK, low, hA, hL, hF, hE, hO, hC, hB, hT⟩ := h
  exact hA.wide
theorem AP9.fits {B : Nat} {w : World} {F : Nat → Prop} {a room : Nat} {s : Sh} (h : AP9 B w F a room s) : FitT s := by
  obtain ⟨K, ps, t, A, cS, bK, low, hA, hL, hF, hE, hO, hC, hB, hT⟩ := h
  exact fun x n hn => hF x n (by rw [hE x]; exact hn)
def Aft9 (B : Nat) (w : World) (F : Nat → Prop) (a room : Nat) (s : Sh) (w' : World) (F' : Nat → Prop) : Prop := AP9 B w' F' a room s ∧ (∀ g, F' g → F g ∨ w.heap.size ≤ g) ∧ ButS F w w'
theorem a9New {B : Nat} (w : World) (r : Int) (hT : TB B w) (hB : B ≤ w.heap.size) : Calls Tryd.prog 6 #[.int .i64 r] w fun e w' => (0 ≤ r ∧ r ≤ 65536 → ∃ a, e = .returned (.tuple #[.pointer (some ⟨a, 0, none⟩), .int .i64 0]) ∧ AP9 B w' (fun g => w.heap.size ≤ g) a r.toNat []) ∧ (¬ (0 ≤ r ∧ r ≤ 65536) → e = .returned (.tuple #[.pointer none, .int .i64 1])) ∧ Below w.heap.size w w' :=
  (pNew_any w r).mono fun e w' ⟨h1, h2, h3⟩ => by
    refine ⟨fun hr => ?_, h2, h3⟩
    obtain ⟨a, b, he, ha, hb, hA⟩ := h1 hr
    have hch : ∀ g, Chg a b none g → w.heap.size ≤ g := fun g hg => by
      rcases hg with e | e | ⟨o, e⟩
      · omega
      · omega
      · cases e
    exact ⟨a, he, fun _ => False, [], [], none, 0, b, 0, hA, fun i hi => by omega, fun k n hn => by unfold ndAt at hn; split at hn <;> simp at hn, Eqv.refl _, fun g hg => hg.elim (fun e => e.elim) (hch g), fun g hg => Nat.le_trans hB (hch g hg), Nat.le_trans hB h3.size, hT.on (h3.mono hB)⟩
theorem a9Put {B : Nat} {w : World} {F Q : Nat → Prop} {a room : Nat} {s : Sh} (h : AP9 B w F a room s) (hI : Inv room s) (l : List Nd) (Al : Option Addr) (ca : Nat) (hl : RowN w Q Al l) (hQ : ∀ g, Q g → ¬ F g) (hll : l.length ≤ 100000) (hf : ∀ n ∈ l, FitK n) :
    Calls Tryd.prog 27 #[.pointer (some ⟨a, 0, none⟩), .slice Al l.length ca] w fun e w' => ∃ O co, e = .returned (.tuple #[.slice O (putA room s l).2.1.length co, .int .i64 ((putA room s l).2.2 : Int)]) ∧ ∃ F', RowI w' (fun g => w.heap.size ≤ g ∧ ¬ F' g) O (putA room s l).2.1 ∧ Aft9 B w F a room (putA room s l).1 w' F' := by
  obtain ⟨K, ps, t, A, cS, bK, low, hA, hL, hF, hE, hO, hC, hB, hT⟩ := h
  refine (pPut_any hA hL hF (inv_eqv hI hE hA.len) l Q Al ca hl (fun g hg hc => hQ g hg (hO g (.inr hc))) hll hf hT hB hC).mono fun e w' h => ?_
  obtain ⟨O, co, H', he, K', ps', t', A', cS', low', hA', hL', hF', hE', hr, hH, hk, hc, hb⟩ := h
  obtain ⟨e1, e2⟩ := hE.put (room := room) l
  rw [e2] at he hr
  have hbl := chg_below (w := w) (K := K) (room := room) (cS := cS) (low := low) (ps := ps) (t := t) (tm := t) hC hB hb
  refine ⟨O, co, he, Own K' a bK A', hr.mono fun g hg _ => hH g hg, ⟨K', ps', t', A', cS', bK, low', hA', hL', hF', hE'.trans e1, fun g hg => hg, fun g hg => (hc g hg).elim (hC g) (fun e => Nat.le_trans hB e), Nat.le_trans hB hb.size, hT.on hbl⟩, fun g hg => ?_, hb.mono fun g hg => hO g (.inr hg)⟩
  rcases hg with hg | hg
  · exact (hk g hg).imp (fun e => hO g (.inl e)) id
  · exact (hc g hg).imp (fun e => hO g (.inr e)) id
structure Al9 (w : World) (B : Nat) (F : Nat → Prop) (a room : Nat) (s : Sh) (K : Nat → Prop) : Prop where
  ap : AP9 B w F a room s
  inv : Inv room s
  own : ∀ g, F g → B ≤ g ∧ g < w.heap.size
  keep : ∀ g, K g → g < w.heap.size ∧ ¬ F g
  base : B ≤ w.heap.size
section
variable {w w1 : World} {B a room : Nat} {F F' K : Nat → Prop} {s s' : Sh}
theorem Al9.op (h : Al9 w B F a room s K) (haf : Aft9 B w F a room s' w1 F') (hI : Inv room s') :
    Al9 w1 B (fun g => F' g ∧ g < w1.heap.size) a room s' (fun g => K g ∨ (w.heap.size ≤ g ∧ g < w1.heap.size ∧ ¬ F' g)) ∧ Kept w w1 K ∧ Below B w w1 := by
  have hz := haf.2.2.size
  refine ⟨⟨haf.1.mono fun g hg hl => ⟨hg, hl⟩, hI, fun g hg => ⟨?_, hg.2⟩, fun g hg => ?_, Nat.le_trans h.base hz⟩, haf.2.2.keptQ fun g hg => (h.keep g hg).2, haf.2.2.below (fun k hk hf => by have := h.own k hf; omega) h.base⟩
  · rcases haf.2.1 g hg.1 with q | q
    · exact (h.own g q).1
    · have := h.base; omega
  · rcases hg with hg | hg
    · have hk := h.keep g hg
      exact ⟨by omega, fun e => by
        rcases haf.2.1 g e.1 with q | q
        · exact hk.2 q
        · omega⟩
    · exact ⟨hg.2.1, fun e => hg.2.2 e.1⟩
theorem Al9.below (h : Al9 w B F a room s K) (hb : Below w.heap.size w w1) : Al9 w1 B F a room s (fun g => K g ∨ (w.heap.size ≤ g ∧ g < w1.heap.size)) ∧ Kept w w1 K ∧ Below B w w1 := by
  have hz := hb.size
  refine ⟨⟨h.ap.kept (Kept.of_below hb) (hb.mono h.base), h.inv, fun g hg => by have := h.own g hg; omega, fun g hg => ?_, Nat.le_trans h.base hz⟩, Kept.of_below hb, hb.mono h.base⟩
  rcases hg with hg | hg
  · have := h.keep g hg; exact ⟨by omega, this.2⟩
  · exact ⟨hg.2, fun e => by have := h.own g e; omega⟩
def On9 (w : World) (B a room : Nat) (s : Sh) (K : Nat → Prop) : Prop := ∃ F, Al9 w B F a room s K
theorem On9.below (h : On9 w B a room s K) (hb : Below w.heap.size w w1) : On9 w1 B a room s (fun g => K g ∨ (w.heap.size ≤ g ∧ g < w1.heap.size)) := by
  obtain ⟨F, h⟩ := h
  exact ⟨F, (h.below hb).1⟩
theorem On9.kept (h : On9 w B a room s K) {Q : Nat → Prop} (hk : ∀ g, ¬ Q g → g < w.heap.size → w1.heap[g]? = w.heap[g]?) (hz : w.heap.size ≤ w1.heap.size) (hQ : ∀ g, Q g → K g ∨ w.heap.size ≤ g) (hB : Below B w w1) : On9 w1 B a room s (fun g => K g ∨ (w.heap.size ≤ g ∧ g < w1.heap.size)) := by
  obtain ⟨F, h⟩ := h
  refine ⟨F, h.ap.kept ⟨hz, fun g hg hl => hk g (fun hq => ?_) hl⟩ hB, h.inv, fun g hg => by have := h.own g hg; omega, fun g hg => ?_, Nat.le_trans h.base hz⟩
  · rcases hQ g hq with e | e
    · exact (h.keep g e).2 hg
    · omega
  · rcases hg with hg | hg
    · have := h.keep g hg; exact ⟨by omega, this.2⟩
    · exact ⟨hg.2, fun e => by have := h.own g e; omega⟩
theorem On9.mono (h : On9 w B a room s K) {K' : Nat → Prop} (hk : ∀ g, K' g → K g) : On9 w B a room s K' := by
  obtain ⟨F, h⟩ := h
  exact ⟨F, h.ap, h.inv, h.own, fun g hg => h.keep g (hk g hg), h.base⟩
theorem On9.base (h : On9 w B a room s K) : B ≤ w.heap.size := by obtain ⟨F, h⟩ := h; exact h.base
theorem On9.inv (h : On9 w B a room s K) : Inv room s := by obtain ⟨F, h⟩ := h; exact h.inv
theorem On9.fits (h : On9 w B a room s K) : FitT s := by obtain ⟨F, h⟩ := h; exact h.ap.fits
theorem On9.wide (h : On9 w B a room s K) : room ≤ 65536 := by obtain ⟨F, h⟩ := h; exact h.ap.wide
theorem On9.lt (h : On9 w B a room s K) {g : Nat} (hg : K g) : g < w.heap.size := by obtain ⟨F, h⟩ := h; exact (h.keep g hg).1
def Lf9 (w : World) (B a room : Nat) (s : Sh) (K : Nat → Prop) (w' : World) (K' : Nat → Prop) : Prop := On9 w' B a room s K' ∧ (∀ g, K g → K' g) ∧ Kept w w' K ∧ Below B w w'
theorem o9Put (h : On9 w B a room s K) (l : List Nd) (A : Option Addr) (ca : Nat) (hrow : RowN w K A l) (hlen : l.length ≤ 100000) (hfit : ∀ n ∈ l, FitK n) :
    Calls Tryd.prog 27 #[.pointer (some ⟨a, 0, none⟩), .slice A l.length ca] w fun e w' => ∃ O co K', e = .returned (.tuple #[.slice O (putA room s l).2.1.length co, .int .i64 ((putA room s l).2.2 : Int)]) ∧ RowI w' K' O (putA room s l).2.1 ∧ Lf9 w B a room (putA room s l).1 K w' K' := by
  obtain ⟨F, h⟩ := h
  have hI := (inv_put h.inv l).1
  refine (a9Put h.ap h.inv l A ca hrow (fun g hg => (h.keep g hg).2) hlen hfit).mono fun e w' ⟨O, co, hr, F', r, haf⟩ => ?_
  obtain ⟨h1, h2, h3⟩ := h.op haf hI
  exact ⟨O, co, _, hr, r.mono fun g hg hl => .inr ⟨hg.1, hl, hg.2⟩, ⟨_, h1⟩, fun g hg => .inl hg, h2, h3⟩
end
theorem o9New (w : World) (hE : TB w.heap.size w) (room : Nat) (hr : room ≤ 65536) :
    Calls Tryd.prog 6 #[.int .i64 (room : Int)] w fun e w' => ∃ a K', e = .returned (.tuple #[.pointer (some ⟨a, 0, none⟩), .int .i64 0]) ∧ On9 w' w.heap.size a room [] K' ∧ (∀ g, g < w.heap.size → K' g) ∧ Below w.heap.size w w' := by
  refine (a9New w room hE (Nat.le_refl _)).mono fun e w' ⟨hy, _, hb⟩ => ?_
  obtain ⟨a, he, hA⟩ := hy (by omega)
  have hA : AP9 w.heap.size w' (fun g => w.heap.size ≤ g) a room [] := by simpa using hA
  have hz := hb.size
  exact ⟨a, fun g => g < w.heap.size, he, ⟨fun g => w.heap.size ≤ g ∧ g < w'.heap.size, ⟨hA.mono fun g h hl => ⟨h, hl⟩, inv_nil room, fun g hg => hg, fun g hg => ⟨by omega, fun e => by omega⟩, hz⟩⟩, fun g hg => hg, hb⟩
end Go.Proofs.YthfbhinlgoaajaaDoor
namespace Go.Proofs.YthfbhinlgoaajaaDoor
open Go.RowKit Go.Maps
theorem a9Get {B : Nat} {w : World} {F : Nat → Prop} {a room : Nat} {s : Sh} (h : AP9 B w F a room s) (x : Int) (hx : -9223372036854775808 ≤ x ∧ x ≤ 9223372036854775807) :
    Calls Tryd.prog 32 #[.pointer (some ⟨a, 0, none⟩), .int .i64 x] w fun e w' => ∃ A1 ca1 B1 cb1, e = .returned (.tuple #[ndV (getN s x) A1 ca1 B1 cb1, .int .i64 (getE s x)]) ∧ RowI w' (fun g => w.heap.size ≤ g) A1 (getN s x).refs ∧ RowI w' (fun g => w.heap.size ≤ g) B1 (getN s x).nums ∧ Below w.heap.size w w' := by
  obtain ⟨K, ps, t, A, cS, bK, low, hA, hL, hF, hE, hO, hC, hB, hT⟩ := h
  refine (pGet_any hA hF x hx).mono fun e w' ⟨A1, ca1, B1, cb1, he, hr1, hr2, hb⟩ => ?_
  rw [hE.getNE, hE.getEE] at he
  rw [hE.getNE] at hr1 hr2
  exact ⟨A1, ca1, B1, cb1, he, hr1, hr2, hb⟩
theorem o9Get {w : World} {B a room : Nat} {K : Nat → Prop} {s : Sh} (h : On9 w B a room s K) (x : Int) (hx : -9223372036854775808 ≤ x ∧ x ≤ 9223372036854775807) :
    Calls Tryd.prog 32 #[.pointer (some ⟨a, 0, none⟩), .int .i64 x] w fun e w' => ∃ A1 ca1 B1 cb1, e = .returned (.tuple #[ndV (getN s x) A1 ca1 B1 cb1, .int .i64 (getE s x)]) ∧ RowI w' (fun g => w.heap.size ≤ g) A1 (getN s x).refs ∧ RowI w' (fun g => w.heap.size ≤ g) B1 (getN s x).nums ∧ Below w.heap.size w w' := by
  obtain ⟨F, h⟩ := h
  exact a9Get h.ap x hx
end Go.Proofs.YthfbhinlgoaajaaDoor
namespace Go.Proofs.YthfbhinlgoaajaaDoor
open Go.RowKit
theorem RowN.pre {w : World} {P : Nat → Prop} {A : Option Addr} {l m : List Nd} (h : RowN w P A (l ++ m)) : RowN w P A l := by
  rcases h with h | ⟨g, o, rfl, hp, hl, hc⟩
  · exact .inl (List.append_eq_nil_iff.1 h).1
  · exact .inr ⟨g, o, rfl, hp, hl, fun i n hi => hc i n (by rw [List.getElem?_append_left (List.getElem?_eq_some_iff.1 hi).1]; exact hi)⟩
def StQ (s : Sh) (t : Tr) (h : Int) (w : World) (e : Ending) (w' : World) : Prop := ∃ b, e = .returned (.bool b) ∧ (b = true ↔ At s t h) ∧ Below w.heap.size w w'
theorem StQ.no {s : Sh} {t : Tr} {h : Int} {w w' : World} (hn : ¬ At s t h) (hb : Below w.heap.size w w') : StQ s t h w (.returned (.bool false)) w' := ⟨false, rfl, ⟨fun e => (by cases e), fun e => absurd e hn⟩, hb⟩
theorem StQ.yes {s : Sh} {t : Tr} {h : Int} {w w' : World} (hn : At s t h) (hb : Below w.heap.size w w') : StQ s t h w (.returned (.bool true)) w' := ⟨true, rfl, ⟨fun _ => hn, fun _ => rfl⟩, hb⟩
set_option maxHeartbeats 16000000 in
set_option maxRecDepth 10000 in
theorem pstands_any (n : Nat) : ∀ (t : Tr), szT' t ≤ n → okT t → ∀ {w : World} {B a room : Nat} {s : Sh} {K : Nat → Prop}, On9 w B a room s K → ∀ (h : Int), -9223372036854775808 ≤ h ∧ h ≤ 9223372036854775807 → ∀ (out : List Nd) {A : Option Addr} {ca : Nat} {Q : Nat → Prop}, RowN w Q A (fl t out) → (fl t out).length ≤ ca → (fl t out).length ≤ 1000000 →
    Calls Tryd.prog 33 #[.pointer (some ⟨a, 0, none⟩), .int .i64 h, .slice A (fl t out).length ca] w fun e w' => StQ s t h w e w' := by
  induction n with
  | zero => intro t ht; cases t; rw [szT'] at ht; omega
  | succ n ih =>
    rintro ⟨k, nums, text, kids⟩ hsz hok w B a room s K hA h hh out A ca Q hL hca hlen
    rw [szT'] at hsz
    rw [okT] at hok
    have HAG := Lib.hid (at_get (s := s) hok.1 nums text kids h)
    have HGt := Lib.hid (o9Get hA h hh)
    have hfl : fl (.mk k nums text kids) out = (flL kids out []).1 ++ [⟨k, (flL kids out []).2, nums, text⟩] := by rw [fl]
    have hrl : (flL kids out []).2.length = kids.length := by
      obtain ⟨m, e, hm⟩ := flL_refs kids out []
      rw [e, List.nil_append, hm]
    obtain ⟨M, hM⟩ : ∃ M, (flL kids out []).1.length = M := ⟨_, rfl⟩
    have hN : (fl (.mk k nums text kids) out).length = M + 1 := by rw [hfl, List.length_append, hM]; rfl
    obtain ⟨g, o, rfl, hgQ, hgl, hat⟩ := hL.at (i := M) (by omega)
    obtain ⟨CA, cca, CB, ccb, ⟨q0, q1, q2, q3⟩, hCA, hCB⟩ := hat M ⟨k, (flL kids out []).2, nums, text⟩ (by rw [hfl, List.getElem?_append_right (by omega), hM, Nat.sub_self]; rfl)
    have hNR : (getN s h).refs.length ≤ 200 ∧ (getN s h).nums.length ≤ 200 ∧ (∀ x ∈ (getN s h).refs, -9223372036854775808 ≤ x ∧ x ≤ 9223372036854775807) := by
      unfold getN
      cases e : ndAt s h with
      | none => exact ⟨by decide, by decide, fun x hx => (by cases hx)⟩
      | some N =>
        have := hA.fits h N e
        exact ⟨this.1.1, this.1.2.1, this.2.1⟩
    have HNR := Lib.hid hNR.2.2
    have hN1 := hNR.1
    have hN2 := hNR.2.1
    have HA := Lib.hid hA
    have HL := Lib.hid hL
    have HCA := Lib.hid hCA
    have HCB := Lib.hid hCB
    have HFl := Lib.hid hfl
    have HRl := Lib.hid hrl
    have HOk := Lib.hid hok.2
    have HK0 := Lib.hid hok.1
    rw [hN] at hca hlen ⊢
    have hi1 : ((M + 1 : Nat) : Int) - 1 = (M : Int) := by omega
    have hMI : (M : Int) < ((M + 1 : Nat) : Int) := by omega
    have hM0 : (0 : Int) ≤ (M : Int) := by omega
    generalize hLen : M + 1 = N1 at *
    have hne : ((N1 : Int) == 0) = false := by rw [beq_eq_false_iff_ne]; omega
    have hbs := HA.out.base
    unfold ndV at HGt
    rw [hrl] at q1
    clear hA hL hat hfl hok hNR hCA hCB hrl
    go_enter Tryd.func33, Tryd.ntmps33
    go_wp2_with fail
    refine HGt.out.mono ?_; rintro e w1 ⟨A1, ca1, B1, cb1, rfl, hr1, hr2, hb1⟩
    have HR1 := Lib.hid hr1
    have HR2 := Lib.hid hr2
    have Hb1 := Lib.hid hb1
    have k0 := keep_cell hb1 q0
    have k1 := keep_cell hb1 q1
    have k2 := keep_cell hb1 q2
    have k3 := keep_cell hb1 q3
    have hgl1 : g < w1.heap.size := Nat.lt_of_lt_of_le hgl hb1.size
    clear hr1 hr2 hb1 q0 q1 q2 q3 HGt
    generalize hNk : getN s h = N at *
    have hbZ : Below w.heap.size w ((w1.alloc (.cells #[.int .i64 N.kind, .slice A1 N.refs.length ca1, .slice B1 N.nums.length cb1, .string ⟨N.text.toArray⟩] 78)).alloc (.cells #[.int .i64 k, .slice CA kids.length cca, .slice CB nums.length ccb, .string ⟨text.toArray⟩] 78)) := (Hb1.out.alloc Hb1.out.size _).alloc (by have := Hb1.out.size; simp; omega) _
    have hb12 : Below w1.heap.size w1 ((w1.alloc (.cells #[.int .i64 N.kind, .slice A1 N.refs.length ca1, .slice B1 N.nums.length cb1, .string ⟨N.text.toArray⟩] 78)).alloc (.cells #[.int .i64 k, .slice CA kids.length cca, .slice CB nums.length ccb, .string ⟨text.toArray⟩] 78)) := ((Below.refl _ _).alloc (Nat.le_refl _) _).alloc (by simp) _
    have HEq := Lib.hid (fun w' (hb : Below ((w1.alloc (.cells #[.int .i64 N.kind, .slice A1 N.refs.length ca1, .slice B1 N.nums.length cb1, .string ⟨N.text.toArray⟩] 78)).alloc (.cells #[.int .i64 k, .slice CA kids.length cca, .slice CB nums.length ccb, .string ⟨text.toArray⟩] 78)).heap.size ((w1.alloc (.cells #[.int .i64 N.kind, .slice A1 N.refs.length ca1, .slice B1 N.nums.length cb1, .string ⟨N.text.toArray⟩] 78)).alloc (.cells #[.int .i64 k, .slice CA kids.length cca, .slice CB nums.length ccb, .string ⟨text.toArray⟩] 78)) w') => pequal_any (ca := cb1) (cb := ccb) N.nums nums B1 CB w' _ _ ((HR2.out.below hb12).below hb) (((HCB.out.below Hb1.out).below hb12).below hb) (by unfold maxLen; omega))
    have HbZ := Lib.hid hbZ
    have Hb12 := Lib.hid hb12
    clear hbZ hb12
    by_cases h1 : N.kind = k
    · have d1 : (N.kind != k) = false := by rw [h1]; simp
      by_cases h2 : N.text = text
      · subst h2
        have HN12 := Lib.hid h1
        clear h1
        by_cases h3 : N.nums = nums
        · rw [decide_eq_true h3] at HEq
          by_cases h4 : N.refs.length = kids.length
          · have d4 : ((N.refs.length : Int) != (kids.length : Int)) = false := by rw [h4]; simp
            have HN34 := Lib.hid (And.intro h3 h4)
            have HN4 := Lib.hid h4
            clear h3 h4
            go_wp2_with fail
            refine (HEq.out _ (Below.refl _ _)).mono ?_; rintro e w3 ⟨rfl, hb3⟩
            have p1 : w3.cell? ⟨w1.heap.size, 1, none⟩ = some (.slice A1 N.refs.length ca1) := by rw [hb3.cell (by simp; omega)]; simp [go_sem]
            have p2 : w3.cell? ⟨w1.heap.size + 1, 1, none⟩ = some (.slice CA kids.length cca) := by rw [hb3.cell (by simp)]; simp [go_sem]
            have z3 : w1.heap.size + 1 < w3.heap.size := by have := hb3.size; simp at this; omega
            have z4 : w1.heap.size < w3.heap.size := by omega
            have HbE := Lib.hid (HbZ.out.trans (hb3.mono HbZ.out.size))
            have HA3 := Lib.hid (HA.out.below HbE.out)
            have HR3 := Lib.hid ((HR1.out.below Hb12.out).below hb3)
            have HCA3 := Lib.hid (((HCA.out.below Hb1.out).below Hb12.out).below hb3)
            have HL3 := Lib.hid (HL.out.below HbE.out)
            clear hb3 HEq k0 k1 k2 k3 HA HR1 HR2 HCA HCB HL Hb1 Hb12 HbZ
            go_wp2_with fail
            go_loopw [61] (fun vi wr => ∃ i : Nat, i ≤ kids.length ∧ vi = .int .i64 (i : Int) ∧ Hid (∀ (j : Nat) (t : Tr) (x : Int), j < i → kids[j]? = some t → N.refs[j]? = some x → At s t x) ∧ Below w3.heap.size w3 wr) (fun vi _ => kids.length - (RowKit.intOf vi).toNat)
            case atStart => exact ⟨0, Nat.zero_le _, rfl, Lib.hid (fun j t x hj => by omega), Below.refl _ _⟩
            case round =>
              obtain ⟨i, hi, rfl, HT, hb⟩ := hrel
              by_cases hlt : i < kids.length
              · obtain ⟨t, ht⟩ : ∃ t, kids[i]? = some t := ⟨_, List.getElem?_eq_getElem hlt⟩
                obtain ⟨x, hx⟩ : ∃ x, N.refs[i]? = some x := ⟨_, List.getElem?_eq_getElem (by rw [HN4.out]; exact hlt)⟩
                obtain ⟨o2, m, hrf, hpre⟩ := flL_at ht out
                have hq2 : (fl t o2).length ≤ M := by have := congrArg List.length hpre; rw [List.length_append] at this; omega
                obtain ⟨gC, oC, hCe, _, hgC, hcC⟩ := HCA3.out.at (i := i) (by rw [HRl.out]; exact hlt)
                obtain ⟨gR, oR, hRe, _, hgR, hcR⟩ := HR3.out.at (i := i) (by rw [HN4.out]; exact hlt)
                have c1 := keep_cell hb (hcC i _ hrf)
                have c2 := keep_cell hb (hcR i _ hx)
                have p3 := keep_cell hb p1
                subst hCe hRe
                have hrow : RowN wr _ (some ⟨g, o, none⟩) (fl t o2) := (RowN.pre (RowN.pre (m := [⟨k, (flL kids out []).2, nums, N.text⟩]) (by have := HL3.out; rw [HFl.out, hpre] at this; exact this))).below hb
                have hxb := HNR.out x (List.mem_of_getElem? hx)
                have hsz1 : szT' t ≤ n := by have := szT_mem (List.mem_of_getElem? ht); omega
                have hC := fun w' (hb' : Below wr.heap.size wr w') => ih t hsz1 (okTL_at HOk.out t (List.mem_of_getElem? ht)) ((HA3.out.below hb).below hb') x hxb o2 (ca := ca) (hrow.below hb') (by omega) (by omega)
                have HNx : Hid (At s t x → ∀ (j : Nat) (t : Tr) (x : Int), j < i + 1 → kids[j]? = some t → N.refs[j]? = some x → At s t x) := Lib.hid fun hat j t' x' hj h1 h2 => by
                  by_cases e : j = i
                  · subst e
                    rw [ht] at h1
                    rw [hx] at h2
                    cases h1
                    cases h2
                    exact hat
                  · exact HT.out j t' x' (by omega) h1 h2
                have HNo : Hid (¬ At s t x → ¬ At s (.mk k nums N.text kids) h) := Lib.hid fun hn e => hn (((atL_iff kids N.refs).1 (HAG.out.1 e).2.2.2).2 i t x ht hx)
                generalize hq : (fl t o2).length = q at *
                have hq0 : (0 : Int) ≤ (q : Int) := by omega
                have hqc : (q : Int) ≤ (ca : Int) := by omega
                have hqn : q ≤ ca := by omega
                have hkI : (i : Int) < (kids.length : Int) := by omega
                have hki0 : (0 : Int) ≤ (i : Int) := by omega
                have hkR : (i : Int) < (N.refs.length : Int) := by rw [HN4.out]; exact hkI
                have zC : gC < wr.heap.size := Lib.lt_of_cell c1
                have zR : gR < wr.heap.size := Lib.lt_of_cell c2
                have zX : w1.heap.size < wr.heap.size := Lib.lt_of_cell p3
                have hqw : IntKind.i64.wrap (q : Int) = (q : Int) := by rw [IntKind.wrap_i64]; omega
                by_cases hat : At s t x
                · have HC := Lib.hid (fun w' hb' => (hC w' hb').mono (R' := fun e w'' => e = .returned (.bool true) ∧ Below w'.heap.size w' w'') fun e w'' ⟨b, he, hbt, hbb⟩ => ⟨by rw [he, hbt.2 hat], hbb⟩)
                  have HNx2 := Lib.hid (HNx.out hat)
                  clear hC hrow hrf hpre hcC hcR ht hx hxb HNx HNo hat
                  go_wp2_with fail
                  go_region_law (first
                    | (go_simp; go_at_call 33
                       refine (HC.out _ (by with_reducible repeat' (first | exact Below.refl _ _ | refine Below.drew ?_))).mono ?_; rintro e w4 ⟨rfl, hb4'⟩
                       have hb4 : Below wr.heap.size wr w4 := by first | exact hb4' | exact (Below.drew (Below.refl wr.heap.size wr)).trans hb4')
                    | fail)
                  all_goals
                    have hb5 := hb.trans (hb4.mono hb.size)
                    clear hb4 hb4' HC c1 c2 p3
                    go_wp2_with fail
                    go_roundw
                    case rel => exact ⟨i + 1, by omega, by go_num, HNx2, hb5⟩
                    case measure => simp [RowKit.intOf]; omega
                · have HC := Lib.hid (fun w' hb' => (hC w' hb').mono (R' := fun e w'' => e = .returned (.bool false) ∧ Below w'.heap.size w' w'') fun e w'' ⟨b, he, hbt, hbb⟩ => ⟨by rw [he, show b = false from by cases b with | false => rfl | true => exact absurd (hbt.1 rfl) hat], hbb⟩)
                  have HNo2 := Lib.hid (HNo.out hat)
                  clear hC hrow hrf hpre hcC hcR ht hx hxb HNx HNo hat
                  go_wp2_with fail
                  go_region_law (first
                    | (go_simp; go_at_call 33
                       refine (HC.out _ (by with_reducible repeat' (first | exact Below.refl _ _ | refine Below.drew ?_))).mono ?_; rintro e w4 ⟨rfl, hb4'⟩
                       have hb4 : Below wr.heap.size wr w4 := by first | exact hb4' | exact (Below.drew (Below.refl wr.heap.size wr)).trans hb4')
                    | fail)
                  all_goals
                    have hb5 := hb.trans (hb4.mono hb.size)
                    clear hb4 hb4' HC c1 c2 p3
                    go_wp2_with fail
                    go_ret
                    exact StQ.no HNo2.out (HbE.out.trans (hb5.mono HbE.out.size))
              · have hii : i = kids.length := by omega
                subst hii
                have HYes : Hid (At s (.mk k nums N.text kids) h) := Lib.hid (HAG.out.2 ⟨HN12.out, (by first | rfl | trivial), HN34.out.1, (atL_iff kids N.refs).2 ⟨HN4.out, fun j t x h1 h2 => HT.out j t x (List.getElem?_eq_some_iff.1 h1).1 h1 h2⟩⟩)
                go_wp2_with fail
                go_ret
                exact StQ.yes HYes.out (HbE.out.trans (hb.mono HbE.out.size))
          · have d4 : ((N.refs.length : Int) != (kids.length : Int)) = true := by rw [bne_iff_ne]; omega
            have HNo : Hid (¬ At s (.mk k nums N.text kids) h) := Lib.hid fun e => h4 (atL_len _ _ (HAG.out.1 e).2.2.2)
            clear h3 h4
            go_wp2_with fail
            refine (HEq.out _ (Below.refl _ _)).mono ?_; rintro e w3 ⟨rfl, hb3⟩
            have p1 : w3.cell? ⟨w1.heap.size, 1, none⟩ = some (.slice A1 N.refs.length ca1) := by rw [hb3.cell (by simp; omega)]; simp [go_sem]
            have p2 : w3.cell? ⟨w1.heap.size + 1, 1, none⟩ = some (.slice CA kids.length cca) := by rw [hb3.cell (by simp)]; simp [go_sem]
            have z3 : w1.heap.size + 1 < w3.heap.size := by have := hb3.size; simp at this; omega
            have z4 : w1.heap.size < w3.heap.size := by omega
            have HbE := Lib.hid (HbZ.out.trans (hb3.mono HbZ.out.size))
            clear hb3
            go_wp2_with fail
            go_ret
            exact StQ.no HNo.out HbE.out
        · rw [decide_eq_false h3] at HEq
          have HNo : Hid (¬ At s (.mk k nums N.text kids) h) := Lib.hid fun e => h3 (HAG.out.1 e).2.2.1
          clear h3
          go_wp2_with fail
          refine (HEq.out _ (Below.refl _ _)).mono ?_; rintro e w3 ⟨rfl, hb3⟩
          have HbE := Lib.hid (HbZ.out.trans (hb3.mono HbZ.out.size))
          clear hb3
          go_wp2_with fail
          go_ret
          exact StQ.no HNo.out HbE.out
      · have HNo : Hid (¬ At s (.mk k nums text kids) h) := Lib.hid fun e => h2 (HAG.out.1 e).2.1
        clear h1
        go_wp2_with fail
        go_ret
        exact StQ.no HNo.out HbZ.out
    · have d1 : (N.kind != k) = true := by rw [bne_iff_ne]; exact h1
      have HNo : Hid (¬ At s (.mk k nums text kids) h) := Lib.hid fun e => h1 (HAG.out.1 e).1
      clear h1
      go_wp2_with fail
      go_ret
      exact StQ.no HNo.out HbZ.out
end Go.Proofs.YthfbhinlgoaajaaDoor
namespace Go.Proofs.YthfbhinlgoaajaaDoor
open Go.RowKit
def enV (x : En) : Value := .agg #[.int .i64 x.key, .string ⟨x.text.toArray⟩]
set_option maxHeartbeats 4000000 in
set_option maxRecDepth 10000 in
theorem pindex0_any {F : Nat} {p : En → Bool} {l : List En} {A : Option Addr} {ca : Nat} {w : World} {Q : Nat → Prop} (hE : ∀ (args : Array Value) (w : World), (callFunc F args).run Tryd.prog w = .ok (.enter F args) w) (hl : RowE w Q A l) (hll : l.length ≤ 1000000)
    (hR : ∀ x ∈ l, ∀ w', Below w.heap.size w w' → Calls Tryd.prog F #[enV x] w' fun e w'' => e = .returned (.bool (p x)) ∧ Below w'.heap.size w' w'') :
    Calls Tryd.prog 26 #[.slice A l.length ca, .func (.func F) #[] #[]] w fun e w' => ∃ r : Int, e = .returned (.int .i64 r) ∧ decide (0 ≤ r) = l.any p ∧ Below w.heap.size w w' := by
  have HL := Lib.hid hl
  have HR := Lib.hid hR
  clear hl hR
  unfold enV at HR
  go_enter Tryd.func26, Tryd.ntmps26
  go_wp2_with fail
  go_loopw [8] (fun vi wr => ∃ i : Nat, i ≤ l.length ∧ vi = .int .i64 (i : Int) ∧ Hid ((l.take i).any p = false) ∧ Below w.heap.size w wr) (fun vi _ => l.length - (RowKit.intOf vi).toNat)
  case atStart => exact ⟨0, Nat.zero_le _, rfl, Lib.hid (by rw [List.take_zero]; rfl), Below.refl _ _⟩
  case round =>
    obtain ⟨i, hi, rfl, HN, hb⟩ := hrel
    by_cases hlt : i < l.length
    · obtain ⟨x, hx⟩ : ∃ x, l[i]? = some x := ⟨_, List.getElem?_eq_getElem hlt⟩
      obtain ⟨g, o, rfl, _, hgl, hat⟩ := HL.out.at hlt
      obtain ⟨q0, q1⟩ := hat.two hx
      have k0 := keep_cell hb q0
      have k1 := keep_cell hb q1
      have HX := Lib.hid (HR.out x (List.mem_of_getElem? hx) wr hb)
      have hI : (i : Int) < (l.length : Int) := by omega
      have hm := List.mem_of_getElem? hx
      have HY : Hid (p x = true → l.any p = true) := Lib.hid fun h => List.any_eq_true.2 ⟨x, hm, h⟩
      have HZ : Hid (p x = false → (l.take (i + 1)).any p = false) := Lib.hid fun h => by rw [List.take_add_one, hx, List.any_append, HN.out]; simp [h]
      clear hat q0 q1 hx hm
      cases hp : p x with
      | true =>
        rw [hp] at HX
        have HY2 := Lib.hid (HY.out hp)
        clear hp HY HZ
        go_wp2_with fail
        refine HX.out.mono ?_; rintro e w1 ⟨rfl, hb1⟩
        go_wp2_with fail
        go_ret
        exact ⟨_, rfl, by rw [HY2.out]; exact decide_eq_true (by omega), hb.trans (hb1.mono hb.size)⟩
      | false =>
        rw [hp] at HX
        have HZ2 := Lib.hid (HZ.out hp)
        clear hp HY HZ HN
        go_wp2_with fail
        refine HX.out.mono ?_; rintro e w1 ⟨rfl, hb1⟩
        have hb2 := hb.trans (hb1.mono hb.size)
        go_wp2_with fail
        go_roundw
        case rel => exact ⟨i + 1, by omega, by go_num, HZ2, hb2⟩
        case measure => simp [RowKit.intOf]; omega
    · have hii : i = l.length := by omega
      subst hii
      have hn := HN.out
      rw [List.take_length] at hn
      have HN2 := Lib.hid hn
      clear hn HN
      go_wp2_with fail
      go_ret
      exact ⟨_, rfl, by rw [HN2.out]; rfl, hb⟩
set_option maxHeartbeats 4000000 in
set_option maxRecDepth 10000 in
theorem pcontains0_any {F : Nat} {p : En → Bool} {l : List En} {A : Option Addr} {ca : Nat} {w : World} {Q : Nat → Prop} (hE : ∀ (args : Array Value) (w : World), (callFunc F args).run Tryd.prog w = .ok (.enter F args) w) (hl : RowE w Q A l) (hll : l.length ≤ 1000000)
    (hR : ∀ x ∈ l, ∀ w', Below w.heap.size w w' → Calls Tryd.prog F #[enV x] w' fun e w'' => e = .returned (.bool (p x)) ∧ Below w'.heap.size w' w'') :
    Calls Tryd.prog 13 #[.slice A l.length ca, .func (.func F) #[] #[]] w fun e w' => e = .returned (.bool (l.any p)) ∧ Below w.heap.size w w' := by
  have HI := Lib.hid (pindex0_any (ca := ca) hE hl hll hR)
  clear hl hR
  go_enter Tryd.func13, Tryd.ntmps13
  go_wp2_with fail
  refine HI.out.mono ?_; rintro e w1 ⟨r, rfl, hr, hb1⟩
  have HR1 := Lib.hid hr
  generalize hd : decide (0 ≤ r) = d at *
  go_wp2_with fail
  go_ret
  exact ⟨by rw [← HR1.out]; rfl, hb1⟩
set_option maxHeartbeats 4000000 in
set_option maxRecDepth 10000 in
theorem pindex1_any {F : Nat} {C : Value} {p : En → Bool} {l : List En} {A : Option Addr} {ca : Nat} {w : World} {Q : Nat → Prop} (hE : ∀ (args : Array Value) (w : World), (callFunc F args).run Tryd.prog w = .ok (.enter F args) w) (hl : RowE w Q A l) (hll : l.length ≤ 1000000)
    (hR : ∀ x ∈ l, ∀ w', Below w.heap.size w w' → Calls Tryd.prog F #[enV x, C] w' fun e w'' => e = .returned (.bool (p x)) ∧ Below w'.heap.size w' w'') :
    Calls Tryd.prog 26 #[.slice A l.length ca, .func (.func F) #[] #[C]] w fun e w' => ∃ r : Int, e = .returned (.int .i64 r) ∧ decide (0 ≤ r) = l.any p ∧ Below w.heap.size w w' := by
  have HL := Lib.hid hl
  have HR := Lib.hid hR
  clear hl hR
  unfold enV at HR
  go_enter Tryd.func26, Tryd.ntmps26
  go_wp2_with fail
  go_loopw [8] (fun vi wr => ∃ i : Nat, i ≤ l.length ∧ vi = .int .i64 (i : Int) ∧ Hid ((l.take i).any p = false) ∧ Below w.heap.size w wr) (fun vi _ => l.length - (RowKit.intOf vi).toNat)
  case atStart => exact ⟨0, Nat.zero_le _, rfl, Lib.hid (by rw [List.take_zero]; rfl), Below.refl _ _⟩
  case round =>
    obtain ⟨i, hi, rfl, HN, hb⟩ := hrel
    by_cases hlt : i < l.length
    · obtain ⟨x, hx⟩ : ∃ x, l[i]? = some x := ⟨_, List.getElem?_eq_getElem hlt⟩
      obtain ⟨g, o, rfl, _, hgl, hat⟩ := HL.out.at hlt
      obtain ⟨q0, q1⟩ := hat.two hx
      have k0 := keep_cell hb q0
      have k1 := keep_cell hb q1
      have HX := Lib.hid (HR.out x (List.mem_of_getElem? hx) wr hb)
      have hI : (i : Int) < (l.length : Int) := by omega
      have hm := List.mem_of_getElem? hx
      have HY : Hid (p x = true → l.any p = true) := Lib.hid fun h => List.any_eq_true.2 ⟨x, hm, h⟩
      have HZ : Hid (p x = false → (l.take (i + 1)).any p = false) := Lib.hid fun h => by rw [List.take_add_one, hx, List.any_append, HN.out]; simp [h]
      clear hat q0 q1 hx hm
      cases hp : p x with
      | true =>
        rw [hp] at HX
        have HY2 := Lib.hid (HY.out hp)
        clear hp HY HZ
        go_wp2_with fail
        refine HX.out.mono ?_; rintro e w1 ⟨rfl, hb1⟩
        go_wp2_with fail
        go_ret
        exact ⟨_, rfl, by rw [HY2.out]; exact decide_eq_true (by omega), hb.trans (hb1.mono hb.size)⟩
      | false =>
        rw [hp] at HX
        have HZ2 := Lib.hid (HZ.out hp)
        clear hp HY HZ HN
        go_wp2_with fail
        refine HX.out.mono ?_; rintro e w1 ⟨rfl, hb1⟩
        have hb2 := hb.trans (hb1.mono hb.size)
        go_wp2_with fail
        go_roundw
        case rel => exact ⟨i + 1, by omega, by go_num, HZ2, hb2⟩
        case measure => simp [RowKit.intOf]; omega
    · have hii : i = l.length := by omega
      subst hii
      have hn := HN.out
      rw [List.take_length] at hn
      have HN2 := Lib.hid hn
      clear hn HN
      go_wp2_with fail
      go_ret
      exact ⟨_, rfl, by rw [HN2.out]; rfl, hb⟩
set_option maxHeartbeats 4000000 in
set_option maxRecDepth 10000 in
theorem pcontains1_any {F : Nat} {C : Value} {p : En → Bool} {l : List En} {A : Option Addr} {ca : Nat} {w : World} {Q : Nat → Prop} (hE : ∀ (args : Array Value) (w : World), (callFunc F args).run Tryd.prog w = .ok (.enter F args) w) (hl : RowE w Q A l) (hll : l.length ≤ 1000000)
    (hR : ∀ x ∈ l, ∀ w', Below w.heap.size w w' → Calls Tryd.prog F #[enV x, C] w' fun e w'' => e = .returned (.bool (p x)) ∧ Below w'.heap.size w' w'') :
    Calls Tryd.prog 13 #[.slice A l.length ca, .func (.func F) #[] #[C]] w fun e w' => e = .returned (.bool (l.any p)) ∧ Below w.heap.size w w' := by
  have HI := Lib.hid (pindex1_any (ca := ca) hE hl hll hR)
  clear hl hR
  go_enter Tryd.func13, Tryd.ntmps13
  go_wp2_with fail
  refine HI.out.mono ?_; rintro e w1 ⟨r, rfl, hr, hb1⟩
  have HR1 := Lib.hid hr
  generalize hd : decide (0 ≤ r) = d at *
  go_wp2_with fail
  go_ret
  exact ⟨by rw [← HR1.out]; rfl, hb1⟩
end Go.Proofs.YthfbhinlgoaajaaDoor
namespace Go.Proofs.YthfbhinlgoaajaaDoor
open Go.RowKit
set_option maxHeartbeats 4000000 in
set_option maxRecDepth 10000 in
theorem phash_any (k : Int) (w : World) : Calls Tryd.prog 22 #[.int .i64 k] w fun e w' => e = .returned (.int .i64 (hashK k)) ∧ w' = w := by
  by_cases h0 : k < 0
  · have d0 : decide (k < 0) = true := decide_eq_true h0
    have e : hashK k = -1 := by unfold hashK; rw [if_neg (by omega)]
    rw [e]
    clear e h0
    go_enter Tryd.func22, Tryd.ntmps22
    go_wp2_with fail
    go_ret
    exact ⟨rfl, rfl⟩
  · have d0 : decide (k < 0) = false := decide_eq_false h0
    by_cases h1 : (1024 : Int) ≤ k
    · have d1 : decide ((1024 : Int) ≤ k) = true := decide_eq_true h1
      have e : hashK k = -1 := by unfold hashK; rw [if_neg (by omega)]
      rw [e]
      clear e
      go_enter Tryd.func22, Tryd.ntmps22
      go_wp2_with fail
      go_ret
      exact ⟨rfl, rfl⟩
    · have d1 : decide ((1024 : Int) ≤ k) = false := decide_eq_false h1
      have HE : Hid (41 * k % 1024 / 2 = hashK k) := Lib.hid (by unfold hashK; rw [if_pos (by omega)])
      have hk0 : 0 ≤ k := by omega
      have hk1 : k < 1024 := by omega
      clear h0 h1
      go_enter Tryd.func22, Tryd.ntmps22
      go_wp2_with fail
      go_ret
      exact ⟨by rw [← HE.out]; rfl, rfl⟩
set_option maxHeartbeats 4000000 in
set_option maxRecDepth 10000 in
theorem pdigit_any (k : Int) (hk : 0 ≤ k ∧ k ≤ 1023) (lv : Nat) (w : World) : Calls Tryd.prog 55 #[.int .i64 k, .int .i64 (lv : Int)] w fun e w' => e = .returned (.int .i64 (digK k lv)) ∧ w' = w := by
  have HH := Lib.hid (fun w => phash_any k w)
  have hb := hash_bound hk
  have hp := hb.1
  have hq := hb.2
  by_cases h0 : lv = 0
  · have d0 : ((lv : Int) == 0) = true := by rw [h0]; rfl
    have HD : Hid (hashK k % 32 = digK k lv) := Lib.hid (by unfold digK; rw [if_pos h0])
    generalize hashK k = H at *
    clear hb hk h0
    go_enter Tryd.func55, Tryd.ntmps55
    go_wp2_with fail
    refine (HH.out w).mono ?_; rintro e w1 ⟨rfl, rfl⟩
    go_wp2_with fail
    go_ret
    exact ⟨by rw [← HD.out]; rfl, rfl⟩
  · have d0 : ((lv : Int) == 0) = false := by
      rw [beq_eq_false_iff_ne]; omega
    have HD : Hid (hashK k / 32 = digK k lv) := Lib.hid (by unfold digK; rw [if_neg h0])
    generalize hashK k = H at *
    clear hb hk h0
    go_enter Tryd.func55, Tryd.ntmps55
    go_wp2_with fail
    refine (HH.out w).mono ?_; rintro e w1 ⟨rfl, rfl⟩
    go_wp2_with fail
    go_ret
    exact ⟨by rw [← HD.out]; rfl, rfl⟩
theorem hash_neg {k : Int} : decide (hashK k < 0) = !(decide (0 ≤ k) && decide (k ≤ 1023)) := by
  by_cases h : 0 ≤ k ∧ k ≤ 1023
  · rw [decide_eq_true h.1, decide_eq_true h.2, decide_eq_false (by have := hash_bound h; omega)]; rfl
  · have e : hashK k = -1 := by unfold hashK; rw [if_neg h]
    rw [e]
    by_cases h0 : 0 ≤ k
    · rw [decide_eq_true h0, decide_eq_false (fun h1 => h ⟨h0, h1⟩)]; rfl
    · rw [decide_eq_false h0]; rfl
set_option maxHeartbeats 4000000 in
set_option maxRecDepth 10000 in
theorem pwrong_any (x : En) (w : World) (hl : x.text.length ≤ maxLen) : Calls Tryd.prog 14 #[.agg #[.int .i64 x.key, .string ⟨x.text.toArray⟩]] w fun e w' => e = .returned (.bool (!rightE x)) ∧ Below w.heap.size w w' := by
  obtain ⟨k, t⟩ := x
  have HH := Lib.hid (fun w => phash_any k w)
  have HN := Lib.hid (hash_neg (k := k))
  have hba : Below w.heap.size w (w.alloc (.cells #[.int .i64 k, .string ⟨t.toArray⟩] 42)) := (Below.refl _ _).alloc (Nat.le_refl _) _
  have HB := Lib.hid hba
  clear hba
  have hl : t.length ≤ maxLen := hl
  cases h0 : decide (hashK k < 0) with
  | true =>
    have d0 := h0
    have HR : Hid (rightE ⟨k, t⟩ = false) := Lib.hid (by
      have := HN.out; rw [h0] at this
      unfold rightE
      show (decide (0 ≤ k) && (decide (k ≤ 1023) && _)) = false
      rw [← Bool.and_assoc, show (decide (0 ≤ k) && decide (k ≤ 1023)) = false by cases hq : (decide (0 ≤ k) && decide (k ≤ 1023)) with | false => rfl | true => rw [hq] at this; cases this]; rfl)
    generalize hashK k = H at *
    go_enter Tryd.func14, Tryd.ntmps14
    go_wp2_with fail
    refine (HH.out _).mono ?_; rintro e w1 ⟨rfl, rfl⟩
    go_wp2_with fail
    go_ret
    exact ⟨by rw [HR.out]; rfl, HB.out⟩
  | false =>
    have d0 := h0
    have hk : (decide (0 ≤ k) && decide (k ≤ 1023)) = true := by have := HN.out; rw [h0] at this; cases hq : (decide (0 ≤ k) && decide (k ≤ 1023)) with | true => rfl | false => rw [hq] at this; cases this
    have hR1 : rightE ⟨k, t⟩ = (decide (1 ≤ t.length) && decide (t.length ≤ 200)) := by
      unfold rightE
      show (decide (0 ≤ k) && (decide (k ≤ 1023) && (decide (1 ≤ t.length) && decide (t.length ≤ 200)))) = _
      rw [← Bool.and_assoc, hk]; rfl
    cases t with
    | nil =>
      have HR : Hid (rightE ⟨k, []⟩ = false) := Lib.hid (by rw [hR1]; rfl)
      generalize hashK k = H at *
      clear hR1 hk
      go_enter Tryd.func14, Tryd.ntmps14
      go_wp2_with fail
      refine (HH.out _).mono ?_; rintro e w1 ⟨rfl, rfl⟩
      go_wp2_with fail
      go_ret
      exact ⟨by rw [HR.out]; rfl, HB.out⟩
    | cons c t =>
      have hneT0 : (c :: t).isEmpty = false := rfl
      have HR : Hid (rightE ⟨k, c :: t⟩ = decide ((c :: t).length ≤ 200)) := Lib.hid (by rw [hR1, decide_eq_true (show 1 ≤ (c :: t).length by simp)]; rfl)
      generalize hashK k = H at *
      generalize (c :: t) = T at *
      clear hR1 hk
      by_cases h2 : (200 : Int) < (T.length : Int)
      · have d2 : decide ((200 : Int) < (T.length : Int)) = true := decide_eq_true h2
        have HR2 := Lib.hid (HR.out.trans (decide_eq_false (by omega)))
        go_enter Tryd.func14, Tryd.ntmps14
        go_wp2_with fail
        refine (HH.out _).mono ?_; rintro e w1 ⟨rfl, rfl⟩
        go_wp2_with fail
        go_ret
        exact ⟨by rw [HR2.out]; rfl, HB.out⟩
      · have d2 : decide ((200 : Int) < (T.length : Int)) = false := decide_eq_false h2
        have HR2 := Lib.hid (HR.out.trans (decide_eq_true (by omega)))
        go_enter Tryd.func14, Tryd.ntmps14
        go_wp2_with fail
        refine (HH.out _).mono ?_; rintro e w1 ⟨rfl, rfl⟩
        go_wp2_with fail
        go_ret
        exact ⟨by rw [HR2.out]; rfl, HB.out⟩
end Go.Proofs.YthfbhinlgoaajaaDoor
