/- Texts joined: NfN, NfP, NfQ, NfRn. -/
import Derived.Test.YtjgjacihdggimaaGreatDoorDk18
import Derived.Test.YtjgjacihdggimaaGreatDoorDk13
import Derived.Test.YtjgjacihdggimaaGreatDoorDk19
import Derived.Test.YtjgjacihdggimaaGreatDoorDk04
import Derived.Test.YtjgjacihdggimaaGreatDoorDk14
import Derived.Test.YtjgjacihdggimaaGreatDoorDk03
import Derived.Carry
set_option linter.all false
namespace Go.Proofs.YtjgjacihdggimaaGreatDoor
open Go.RowKit Go.Maps
set_option maxHeartbeats 16000000 in
set_option maxRecDepth 10000 in
theorem pmay_any {w : World} {K : Nat → Prop} {a room : Nat} {ps : List (Option Nat)} {t tm : Sh} {SA : Option Addr} {cS bK low : Nat} (h : AR w K a room ps t tm SA cS bK low) (l : List Nd) (Q : Nat → Prop) (A : Option Addr) (ca : Nat) (hl : RowN w Q A l) (hll : l.length ≤ 100000) (hlr : ∀ n ∈ l, n.refs.length ≤ 1000 ∧ B64s n.refs) :
    Calls Tryz.prog 66 #[.pointer (some ⟨a, 0, none⟩), .slice A l.length ca] w fun e w' => e = .returned (.bool (!wrongF t 0 l)) ∧ Below w.heap.size w w' := by
  have HR := Lib.hid h
  have HL := Lib.hid hl
  have HLr := Lib.hid hlr
  clear h hl hlr
  go_enter Tryz.func66, Tryz.ntmps66
  go_wp2_with fail
  go_loopw [5, 6, 8, 11] (fun _ _ _ vi wr => ∃ i : Nat, i ≤ l.length ∧ vi = .int .i64 (i : Int) ∧ Hid (wrongF t 0 l = wrongF t i (l.drop i)) ∧ Hid (Below w.heap.size w wr)) (fun _ _ _ vi _ => l.length - (RowKit.intOf vi).toNat)
  case atStart => exact ⟨0, Nat.zero_le _, rfl, Lib.hid (by rw [List.drop_zero]), Lib.hid (Below.refl _ _)⟩
  case round =>
    obtain ⟨i, hi, rfl, HT, HB0⟩ := hrel
    by_cases hlt : i < l.length
    · obtain ⟨g, o, rfl, _, _, hat⟩ := HL.out.at hlt
      obtain ⟨n, hn⟩ : ∃ n, l[i]? = some n := ⟨_, List.getElem?_eq_getElem hlt⟩
      obtain ⟨B, cb, C, cc, ⟨q0, q1, q2, q3⟩, hB, _⟩ := hat i n hn
      have k0 := keep_cell HB0.out q0
      have k1 := keep_cell HB0.out q1
      have k2 := keep_cell HB0.out q2
      have k3 := keep_cell HB0.out q3
      have hnr := HLr.out n (List.mem_of_getElem? hn)
      have hnl := hnr.1
      have Hnb := Lib.hid hnr.2
      have HB := Lib.hid hB
      have Hn := Lib.hid hn
      have HBq : Hid (Below w.heap.size w (wr.alloc (.cells #[.int .i64 n.kind, .slice B n.refs.length cb, .slice C n.nums.length cc, .string ⟨n.text.toArray⟩] 126))) := Lib.hid (HB0.out.alloc HB0.out.size _)
      have hzr := HB0.out.size
      clear hat hn hB q0 q1 q2 q3 hnr
      go_wp2_with fail
      clear k0 k1 k2 k3
      generalize wr.alloc (.cells #[.int .i64 n.kind, .slice B n.refs.length cb, .slice C n.nums.length cc, .string ⟨n.text.toArray⟩] 126) = wq at *
      go_loopw [8, 19] (fun _ vk wr2 => ∃ k : Nat, k ≤ n.refs.length ∧ vk = .int .i64 (k : Int) ∧ Hid ((n.refs.take k).all (okRef t i) = true) ∧ Hid (Below w.heap.size w wr2)) (fun _ vk _ => n.refs.length - (RowKit.intOf vk).toNat)
      case atStart => exact ⟨0, Nat.zero_le _, rfl, Lib.hid (by rw [List.take_zero]; rfl), HBq⟩
      case round =>
        obtain ⟨k, hk, rfl, HA, HB2⟩ := hrel
        by_cases hkl : k < n.refs.length
        · obtain ⟨g2, o2, rfl, _, _, hc⟩ := HB.out.at hkl
          obtain ⟨r, hr⟩ : ∃ r, n.refs[k]? = some r := ⟨_, List.getElem?_eq_getElem hkl⟩
          have q2 := keep_cell HB2.out (hc k r hr)
          have hr64 := Hnb.out r (List.mem_of_getElem? hr)
          have HO := Lib.hid (okRef_not t i r)
          have HY := Lib.hid (fun h => all_next hr HA.out h)
          have HN := Lib.hid (fun h => HT.out.trans (wrong_yes Hn.out hr h))
          have hxo : bits BinOp.xor IntKind.i64 (-1) r = -1 - r := not_i64 r hr64
          have hxo2 : bits BinOp.xor IntKind.i64 (if IntKind.i64.signed = true then -1 else 9223372036854775807) r = -1 - r := not_i64 r hr64
          clear hc hr
          by_cases hp : 0 < r
          · have dp : decide (0 < r) = true := decide_eq_true hp
            have dm : decide (r < 0) = false := decide_eq_false (by omega)
            have dx : decide (r < -(i : Int)) = false := decide_eq_false (by omega)
            have HH := Lib.hid (plive_any (HR.out.below HB2.out) r hr64)
            generalize live t r = V at *
            generalize okRef t i r = O at *
            cases V
            · rw [dp, dx] at HO
              have HN2 := Lib.hid (HN.out (by rw [HO.out]; rfl))
              clear HO HY HN dx
              go_wp2_with fail
              refine HH.out.mono ?_; rintro e w2 ⟨rfl, rfl⟩
              go_wp2_with fail
              go_ret
              exact ⟨by rw [HN2.out]; rfl, HB2.out⟩
            · rw [dp, dx] at HO
              have HY2 := Lib.hid (HY.out (by rw [HO.out]; rfl))
              clear HO HY HN dx
              go_wp2_with fail
              refine HH.out.mono ?_; rintro e w2 ⟨rfl, rfl⟩
              go_wp2_with fail
              go_roundw
              case rel => exact ⟨k + 1, by omega, by go_num, HY2, HB2⟩
              case measure => simp [RowKit.intOf]; omega
          · have dp : decide (0 < r) = false := decide_eq_false hp
            generalize live t r = V at *
            generalize okRef t i r = O at *
            by_cases hm : r < 0
            · have dm : decide (r < 0) = true := decide_eq_true hm
              cases dx : decide ((i : Int) ≤ -1 - r)
              · have d2 : decide (r < -(i : Int)) = false := decide_eq_false (by have := of_decide_eq_false dx; omega)
                rw [dp, d2] at HO
                have HY2 := Lib.hid (HY.out (by rw [HO.out]; rfl))
                clear HO HY HN d2
                go_wp2_with fail
                go_roundw
                case rel => exact ⟨k + 1, by omega, by go_num, HY2, HB2⟩
                case measure => simp [RowKit.intOf]; omega
              · have d2 : decide (r < -(i : Int)) = true := decide_eq_true (by have := of_decide_eq_true dx; omega)
                rw [dp, d2] at HO
                have HN2 := Lib.hid (HN.out (by rw [HO.out]; simp))
                clear HO HY HN d2
                go_wp2_with fail
                go_ret
                exact ⟨by rw [HN2.out]; rfl, HB2.out⟩
            · have dm : decide (r < 0) = false := decide_eq_false hm
              have d2 : decide (r < -(i : Int)) = false := decide_eq_false (by omega)
              rw [dp, d2] at HO
              have HY2 := Lib.hid (HY.out (by rw [HO.out]; rfl))
              clear HO HY HN d2
              go_wp2_with fail
              go_roundw
              case rel => exact ⟨k + 1, by omega, by go_num, HY2, HB2⟩
              case measure => simp [RowKit.intOf]; omega
        · have hkk : k = n.refs.length := by omega
          subst hkk
          have HA2 := HA.out
          rw [List.take_length] at HA2
          have HN := Lib.hid (HT.out.trans (wrong_next Hn.out HA2))
          clear HA2
          go_wp2_with fail
          go_roundw
          case rel => exact ⟨i + 1, by omega, by go_num, HN, HB2⟩
          case measure => simp [RowKit.intOf]; omega
    · have hii : i = l.length := by omega
      subst hii
      have HZ : Hid (wrongF t 0 l = false) := Lib.hid (by have := HT.out; rw [List.drop_length, wrongF] at this; exact this)
      go_wp2_with fail
      go_ret
      exact ⟨by rw [HZ.out]; rfl, HB0.out⟩
end Go.Proofs.YtjgjacihdggimaaGreatDoor
namespace Go.Proofs.YtjgjacihdggimaaGreatDoor
open Go.RowKit Go.Maps
structure UR (t t' : Sh) (lds : List Int) : Prop where
  nd : lds.Nodup
  lv : ∀ h ∈ lds, live t' h = true
  tk : Took t' t lds
theorem UR.start (t : Sh) : UR t t [] := ⟨List.nodup_nil, fun h hh => (List.not_mem_nil hh).elim, Took.nil t⟩
theorem UR.up {t t' : Sh} {lds : List Int} (h : UR t t' lds) : Up t t' := fun x n e => by
  rw [h.tk x] at e
  split at e
  · cases e
  · exact e
theorem UR.step {room : Nat} {t t' t2 : Sh} {lds : List Int} {x : Nd} {k : Int} (h : UR t t' lds) (e : oneA room t' x = some (t2, k)) : UR t t2 (if fnd t' x ≠ 0 then lds else lds ++ [k]) := by
  unfold oneA at e
  by_cases hf : fnd t' x ≠ 0
  · rw [if_pos hf] at e ⊢
    cases e
    exact h
  · rw [if_neg hf] at e ⊢
    by_cases hr : room < freeH t'
    · rw [if_pos hr] at e; cases e
    · rw [if_neg hr] at e
      cases e
      have hd := freeH_dead t'
      refine ⟨List.nodup_append.2 ⟨h.nd, by simp, fun a ha b hb => ?_⟩, fun y hy => ?_, fun y => ?_⟩
      · rintro rfl
        have := h.lv a ha
        rw [List.mem_singleton.1 hb] at this
        unfold live at this
        rw [hd] at this; cases this
      · unfold live
        rw [setH_at]
        rcases List.mem_append.1 hy with hy | hy
        · split
          · rfl
          · exact h.lv y hy
        · rw [if_pos (List.mem_singleton.1 hy)]; rfl
      · rw [h.tk y, setH_at]
        by_cases ey : y = (freeH t' : Int)
        · subst ey
          rw [if_pos (show _ ∈ lds ++ _ by simp), hd]
          split <;> rfl
        · have : (y ∈ lds ++ [(freeH t' : Int)]) ↔ y ∈ lds := by simp [ey]
          simp only [this, if_neg ey]
theorem took_eqv {t t' t'' : Sh} {l : List Int} (h : Took t' t l) (k : Took t' t'' l) : Eqv t'' t := fun x => (k x).trans (h x).symm
theorem wrong_ref {t : Sh} : ∀ (l : List Nd) (j : Nat), wrongF t j l = false → ∀ (i : Nat) (n : Nd), l[i]? = some n → ∀ r ∈ n.refs, okRef t (j + i) r = true
  | [], _, _, i, n, hn, _, _ => by simp at hn
  | m :: l, j, h, 0, n, hn, r, hr => by
    rw [wrongF, Bool.or_eq_false_iff] at h
    cases (show m = n by simpa using hn)
    have := h.1
    simp only [Bool.not_eq_false'] at this
    exact List.all_eq_true.1 this r hr
  | m :: l, j, h, i + 1, n, hn, r, hr => by
    rw [wrongF, Bool.or_eq_false_iff] at h
    have := wrong_ref l (j + 1) h.2 i n (by simpa using hn) r hr
    rwa [show j + 1 + i = j + (i + 1) by omega] at this
def PutF (w w' : World) (e : Ending) (K : Nat → Prop) (a room : Nat) (t : Sh) (A : Option Addr) (bK : Nat) (l : List Nd) : Prop :=
  ∃ O co H', e = .returned (.tuple #[.slice O (putA room t l).2.1.length co, .int .i64 ((putA room t l).2.2 : Int)]) ∧ ∃ K' ps' t' A' cS' low', AR w' K' a room ps' t' t' A' cS' bK low' ∧ LowK t' low' ∧ FitT t' ∧ Eqv t' (putA room t l).1 ∧
    RowI w' H' O (putA room t l).2.1 ∧ (∀ g, H' g → w.heap.size ≤ g ∧ ¬ Own K' a bK A' g) ∧ (∀ g, K' g → K g ∨ w.heap.size ≤ g) ∧ (∀ g, Chg a bK A' g → Chg a bK A g ∨ w.heap.size ≤ g) ∧ ButS (Chg a bK A) w w'
structure Mid (w wr : World) (K : Nat → Prop) (a room : Nat) (t : Sh) (A : Option Addr) (bK b base : Nat) (i : Nat) (K' : Nat → Prop) (ps' : List (Option Nat)) (t' : Sh) (A' : Option Addr) (cS' low' : Nat) (out lds : List Int) (vH vL : Value) : Prop where
  ps : PSt wr K' a room ps' t' A' cS' bK low' b out lds vH vL base
  ol : out.length = i
  ll : lds.length ≤ i
  ur : UR t t' lds
  iv : Inv room t'
  ov : ∀ h ∈ out, live t' h = true
  k1 : ∀ g, K' g → K g ∨ w.heap.size ≤ g
  c1 : ∀ g, Chg a bK A' g → Chg a bK A g ∨ w.heap.size ≤ g
  l1 : ∀ g, LM b vH vL g → w.heap.size ≤ g
  bu : ButS (Chg a bK A) w wr
theorem Mid.below {w wr w2 : World} {K : Nat → Prop} {a room : Nat} {t : Sh} {A : Option Addr} {bK b base i : Nat} {K' : Nat → Prop} {ps' : List (Option Nat)} {t' : Sh} {A' : Option Addr} {cS' low' : Nat} {out lds : List Int} {vH vL : Value}
    (h : Mid w wr K a room t A bK b base i K' ps' t' A' cS' low' out lds vH vL) (hb : Below wr.heap.size wr w2) : Mid w w2 K a room t A bK b base i K' ps' t' A' cS' low' out lds vH vL :=
  { h with ps := h.ps.below hb, bu := h.bu.trans (ButS.of_below hb) }
theorem Mid.next {w wr w2 : World} {K : Nat → Prop} {a room : Nat} {t : Sh} {A : Option Addr} {bK b base i : Nat} {K' : Nat → Prop} {ps' : List (Option Nat)} {t' t2 : Sh} {A' : Option Addr} {cS' low' : Nat} {out lds : List Int} {vH vL : Value} {x : Nd} {k : Int}
    (h : Mid w wr K a room t A bK b base i K' ps' t' A' cS' low' out lds vH vL) (he : oneA room t' x = some (t2, k)) (hx : ∀ r ∈ x.refs, r = 0 ∨ live t' r = true) (hq : PutQ wr w2 K' a room t2 A' bK b (out ++ [k]) (if fnd t' x ≠ 0 then lds else lds ++ [k]) vH vL base) :
    ∃ K2 ps2 A2 cS2 low2 vH2 vL2, Mid w w2 K a room t A bK b base (i + 1) K2 ps2 t2 A2 cS2 low2 (out ++ [k]) (if fnd t' x ≠ 0 then lds else lds ++ [k]) vH2 vL2 := by
  obtain ⟨K2, ps2, A2, cS2, low2, vH2, vL2, hp, _, hk, hc, hl, hb⟩ := hq
  have hz := h.bu.size
  have hu := one_up he
  refine ⟨K2, ps2, A2, cS2, low2, vH2, vL2, ⟨hp, by rw [List.length_append, h.ol]; rfl, ?_, h.ur.step he, inv_one h.iv hx he, fun y hy => ?_, fun g hg => ?_, fun g hg => ?_, fun g hg => ?_, ?_⟩⟩
  · have := h.ll
    split
    · omega
    · rw [List.length_append]; simp; omega
  · rcases List.mem_append.1 hy with hy | hy
    · exact hu.1.live (h.ov y hy)
    · rw [List.mem_singleton.1 hy]; exact live_iff.2 ⟨_, hu.2⟩
  · rcases hk g hg with e | e
    · exact h.k1 g e
    · exact .inr (by omega)
  · rcases hc g hg with e | e
    · exact h.c1 g e
    · exact .inr (by omega)
  · rcases hl g hg with e | e
    · exact h.l1 g e
    · omega
  · refine h.bu.trans' hb fun g hgl hg => ?_
    rcases hg with e | e
    · rcases h.c1 g e with e | e
      · exact e
      · omega
    · have := h.l1 g e; omega
set_option maxHeartbeats 32000000 in
set_option maxRecDepth 10000 in
theorem pPut_any {w : World} {K : Nat → Prop} {a room : Nat} {ps : List (Option Nat)} {t : Sh} {SA : Option Addr} {cS bK low : Nat} (h : AR w K a room ps t t SA cS bK low) (hlow : LowK t low) (hft : FitT t) (hI : Inv room t) (l : List Nd) (Q : Nat → Prop) (A : Option Addr) (ca : Nat) (hl : RowN w Q A l) (hQ : ∀ g, Q g → ¬ Chg a bK SA g) (hll : l.length ≤ 100000) (hfit : ∀ n ∈ l, FitK n)
    {Bs : Nat} (hE : ∀ w', Below Bs w w' → TabE w') (hBs : Bs ≤ w.heap.size) (hCB : ∀ g, Chg a bK SA g → Bs ≤ g) :
    Calls Tryz.prog 51 #[.pointer (some ⟨a, 0, none⟩), .slice A l.length ca] w fun e w' => PutF w w' e K a room t SA bK l := by
  have HM := Lib.hid (pmay_any h l Q A ca hl (by omega) (fun n hn => by have := hfit n hn; exact ⟨by have := this.1.1; omega, this.2.1⟩))
  have HA := Lib.hid h
  have HLow := Lib.hid hlow
  have HFt := Lib.hid hft
  have HI := Lib.hid hI
  have HL := Lib.hid hl
  have HQ := Lib.hid hQ
  have HFi := Lib.hid hfit
  have HTE := Lib.hid hE
  have HCB := Lib.hid hCB
  have hwd := h.wide
  clear h hlow hft hI hl hQ hfit hE hCB
  go_enter Tryz.func51, Tryz.ntmps51
  go_wp2_with fail
  refine HM.out.mono ?_; rintro e w0 ⟨rfl, hb0⟩
  have HB0 := Lib.hid hb0
  clear hb0 HM
  cases hw : wrongF t 0 l with
  | true =>
    have HW : Hid (putA room t l = (t, [], 1)) := Lib.hid (put_wrong hw)
    clear hw
    go_wp2_with fail
    go_ret2
    unfold PutF
    rw [HW.out]
    exact ⟨none, 0, fun _ => False, rfl, K, ps, t, SA, cS, low, HA.out.below HB0.out, HLow.out, HFt.out, Eqv.refl _, .inl rfl, fun g hg => hg.elim, fun g hg => .inl hg, fun g hg => .inl hg, ButS.of_below HB0.out⟩
  | false =>
    have HW := Lib.hid hw
    have hblk := (MapKept.heap_alloc w0 (.cells #[.pointer (some ⟨a, 0, none⟩), .slice none 0 0, .slice none 0 0] 132)).1
    have hb1 : Below w0.heap.size w0 (w0.alloc (.cells #[.pointer (some ⟨a, 0, none⟩), .slice none 0 0, .slice none 0 0] 132)) := (Below.refl _ _).alloc (Nat.le_refl _) _
    have hA1 := (HA.out.below HB0.out).below hb1
    have hz0 := HB0.out.size
    have hMid : Hid (Mid w (w0.alloc (.cells #[.pointer (some ⟨a, 0, none⟩), .slice none 0 0, .slice none 0 0] 132)) K a room t SA bK w0.heap.size w0.heap.size 0 K ps t SA cS low [] [] (.slice none 0 0) (.slice none 0 0)) := Lib.hid
      { ps := ⟨hA1, HLow.out, HFt.out,
          { p0 := by rw [Lib.cell_of_heap hblk]; rfl
            p1 := by rw [Lib.cell_of_heap hblk]; rfl
            p2 := by rw [Lib.cell_of_heap hblk]; rfl
            fB := fun j => by unfold World.frozen?; rw [hblk]; simp
            oH := World.ownsRow_nil _ _ _ _
            oL := World.ownsRow_nil _ _ _ _
            ap := Apart.nil _
            hb := by simp [Value.ownBlock]
            lb := by simp [Value.ownBlock] },
          fun g hg => by
            have e : g = w0.heap.size := by
              rcases hg with e | e | e
              · exact e
              · cases e
              · cases e
            exact ⟨fun hk => by have := HA.out.kl g hk; omega, fun hk => by have := (HA.out.chg hk).2; omega⟩⟩
        ol := rfl
        ll := Nat.le_refl _
        ur := UR.start t
        iv := HI.out
        ov := fun h hh => (List.not_mem_nil hh).elim
        k1 := fun g hg => .inl hg
        c1 := fun g hg => .inl hg
        l1 := fun g hg => by
          rcases hg with e | e | e
          · omega
          · cases e
          · cases e
        bu := ButS.of_below (HB0.out.trans (hb1.mono hz0)) }
    have HRf := Lib.hid (wrong_ref l 0 hw)
    clear hblk hb1 hA1 hw
    go_wp2_with fail
    go_loopw [8, 21] (fun _ vi wr => ∃ (i : Nat) (K' : Nat → Prop) (ps' : List (Option Nat)) (t' : Sh) (A' : Option Addr) (cS' low' : Nat) (out lds : List Int) (vH vL : Value), i ≤ l.length ∧ vi = .int .i64 (i : Int) ∧ Hid (Mid w wr K a room t SA bK w0.heap.size w0.heap.size i K' ps' t' A' cS' low' out lds vH vL) ∧ Hid (putL room t [] l = putL room t' out (l.drop i))) (fun _ vi _ => l.length - (RowKit.intOf vi).toNat)
    case atStart => exact ⟨0, K, ps, t, SA, cS, low, [], [], _, _, Nat.zero_le _, rfl, hMid, Lib.hid (by rw [List.drop_zero])⟩
    case round =>
      obtain ⟨i, K', ps', t', A', cS', low', out, lds, vH, vL, hi, rfl, HMi, HT⟩ := hrel
      by_cases hlt : i < l.length
      · obtain ⟨n, hn⟩ : ∃ n, l[i]? = some n := ⟨_, List.getElem?_eq_getElem hlt⟩
        obtain ⟨g, o, rfl, _, _, hat⟩ := (HL.out.kept (HMi.out.bu.keptQ HQ.out)).at hlt
        obtain ⟨B, cb, C, cc, ⟨q0, q1, q2, q3⟩, hB, hC⟩ := hat i n hn
        have hfn := HFi.out n (List.mem_of_getElem? hn)
        have hba : Below wr.heap.size wr (wr.alloc (.cells #[.int .i64 n.kind, .slice B n.refs.length cb, .slice C n.nums.length cc, .string ⟨n.text.toArray⟩] 126)) := (Below.refl _ _).alloc (Nat.le_refl _) _
        have HM1 := Lib.hid (HMi.out.below hba)
        have hM1 := HMi.out.below hba
        have hBq := hB.below hba
        have hCq := hC.below hba
        have hok : ∀ r ∈ n.refs, okRef t out.length r = true := fun r hr => by have := HRf.out i n hn r hr; rwa [Nat.zero_add, ← HMi.out.ol] at this
        have HOk := Lib.hid hok
        have HNx := Lib.hid (fun k s' => putL_next (room := room) (s := t') (out := out) (k := k) (s' := s') hn)
        have HSt := Lib.hid (putL_stop (room := room) (s := t') (out := out) hn)
        have hzw := HMi.out.bu.size
        have HB1 : Hid (Below wr.heap.size wr (wr.alloc (.cells #[.int .i64 n.kind, .slice B n.refs.length cb, .slice C n.nums.length cc, .string ⟨n.text.toArray⟩] 126))) := Lib.hid hba
        have hbs : w0.heap.size ≤ wr.heap.size := by have := HMi.out.ps.ls.lt (.inl rfl : LM w0.heap.size vH vL w0.heap.size); omega
        have hz1 := hba.size
        have HPut := Lib.hid (pput_any hM1.ps (fun h k n e1 e2 => HMi.out.iv.one h k n e1 e2) hBq hCq hfn (by have := HMi.out.ol; omega) (by have := HMi.out.ll; omega) (fun y hy => by have h1 := live_bound (HMi.out.ov y hy); have h2 := HMi.out.ps.ar.len; omega) (fun r hr => okRef_low (hok r hr)) (ca := cb) (cc := cc) (Bs := Bs)
          (fun w'' hw'' => HTE.out w'' ((hM1.bu.below (fun k hk hc => by have := HCB.out k hc; omega) hBs).trans hw'')) (by omega) (fun k hk => by rcases hM1.c1 k hk with e | e; exact HCB.out k e; omega) (by omega))
        clear hat hB hC hn hfn hba hM1 hBq hCq hok HMi
        unfold ndV at HPut
        go_wp2_with fail
        refine HPut.out.mono ?_; rintro e w2 hput
        clear q0 q1 q2 q3 HPut
        rcases hput with ⟨rfl, hone, hps, hb2⟩ | ⟨rfl, t2, k, hone, hq⟩
        · have HM2 := Lib.hid (HM1.out.below hb2)
          have HT2 := Lib.hid (HT.out.trans (HSt.out hone))
          have HU := Lib.hid (pundo_any HM2.out.ps (fun h k n e1 e2 => HM2.out.iv.one h k n e1 e2) HM2.out.ur.nd HM2.out.ur.lv (by have := HM2.out.ll; omega) (Bs := Bs)
            (fun w'' hw'' => HTE.out w'' ((HM2.out.bu.below (fun k hk hc => by have := HCB.out k hc; omega) hBs).trans hw'')) (by have := HM2.out.bu.size; omega) (fun k hk => by rcases HM2.out.c1 k hk with e | e; exact HCB.out k e; omega))
          clear hone hps hb2
          go_wp2_with fail
          refine HU.out.mono ?_; rintro e w3 ⟨rfl, ps3, t3, low3, hA3, hL3, hF3, hT3, hb3⟩
          have HA3 := Lib.hid hA3
          have HL3 := Lib.hid hL3
          have HF3 := Lib.hid hF3
          have HE3 := Lib.hid (took_eqv HM2.out.ur.tk hT3)
          have HB3 := Lib.hid (HM2.out.bu.trans' hb3 fun k hl hk => by
            rcases HM2.out.c1 k hk with e | e
            · exact e
            · omega)
          clear hA3 hL3 hF3 hT3 hb3
          go_wp2_with fail
          go_ret2
          unfold PutF
          rw [put_full HW.out HT2.out]
          exact ⟨none, 0, fun _ => False, rfl, K', ps3, t3, A', cS', low3, HA3.out, HL3.out, HF3.out, HE3.out, .inl rfl, fun g hg => hg.elim, HM2.out.k1, HM2.out.c1, HB3.out⟩
        · have HT2 := Lib.hid (HT.out.trans (HNx.out k t2 hone))
          have HM2 := Lib.hid (HM1.out.next hone (fun x hx => by
            obtain ⟨r, hr, rfl⟩ := List.mem_map.1 hx
            exact okRef_res HM1.out.ur.up HM1.out.ov (HOk.out r hr)) hq)
          clear hone hq
          go_wp2_with fail
          go_roundw
          case rel =>
            obtain ⟨K2, ps2, A2, cS2, low2, vH2, vL2, hm⟩ := HM2.out
            exact ⟨i + 1, K2, ps2, t2, A2, cS2, low2, _, _, vH2, vL2, by omega, by go_num, Lib.hid hm, HT2⟩
          case measure => simp [RowKit.intOf]; omega
      · have hii : i = l.length := by omega
        have HT2 : Hid (putL room t [] l = some (t', out)) := Lib.hid (by have := HT.out; rwa [List.drop_of_length_le (by omega), putL] at this)
        obtain ⟨O, co, hO, _, hc⟩ := OwnR.shape (f := inW) (n := 1) (fun _ => rfl) HMi.out.ps.ls.oH
        have hrow : RowI wr (fun g => vH.ownBlock = some g) O out := by
          by_cases hne : out = []
          · exact .inl hne
          · obtain ⟨g, o, e', hat⟩ := hc hne
            have hob : vH.ownBlock = some g := by rw [hO, e']; rfl
            exact .inr ⟨g, o, e', hob, HMi.out.ps.ls.lt (.inr (.inl hob)), fun j x hj => by have := hat j x hj 0 _ rfl; simpa using this⟩
        have p1 := HMi.out.ps.ls.p1
        have p1' : wr.cell? ⟨w0.heap.size, 1, none⟩ = some (.slice O out.length co) := by rw [← hO]; exact p1
        have HRow := Lib.hid hrow
        clear hii hO hc hrow p1
        go_wp2_with fail
        go_ret2
        unfold PutF
        rw [put_good HW.out HT2.out]
        exact ⟨O, co, _, rfl, K', ps', t', A', cS', low', HMi.out.ps.ar, HMi.out.ps.lk, HMi.out.ps.ft, Eqv.refl _, HRow.out, fun g hg => ⟨HMi.out.l1 g (.inr (.inl hg)), fun e => by
          have := HMi.out.ps.ap g (.inr (.inl hg))
          rcases e with e | e
          · exact this.1 e
          · exact this.2 e⟩, HMi.out.k1, HMi.out.c1, HMi.out.bu⟩
end Go.Proofs.YtjgjacihdggimaaGreatDoor
namespace Go.Proofs.YtjgjacihdggimaaGreatDoor
open Go.RowKit Go.Maps
section
variable {w : World} {K : Nat → Prop} {a room cS bK low : Nat} {ps : List (Option Nat)} {t tm : Sh} {SA : Option Addr}
set_option maxHeartbeats 16000000 in
set_option maxRecDepth 10000 in
theorem pGet_any (h : AR w K a room ps t tm SA cS bK low) (hft : FitT t) (r : Int) (hr : -9223372036854775808 ≤ r ∧ r ≤ 9223372036854775807) :
    Calls Tryz.prog 64 #[.pointer (some ⟨a, 0, none⟩), .int .i64 r] w fun e w' => ∃ A ca B cb, e = .returned (.tuple #[ndV (getN t r) A ca B cb, .int .i64 (getE t r)]) ∧ RowI w' (fun g => w.heap.size ≤ g) A (getN t r).refs ∧ RowI w' (fun g => w.heap.size ≤ g) B (getN t r).nums ∧ Below w.heap.size w w' := by
  have HR := Lib.hid h
  have HH := Lib.hid (fun w' (hb : Below w.heap.size w w') => plive_any (h.below hb) r hr)
  have hE : Hid (getE t r = if live t r = true then 0 else 4) := Lib.hid rfl
  have hba : Below w.heap.size w (w.alloc (.cells #[.int .i64 0, .slice none 0 0, .slice none 0 0, .string ⟨#[]⟩] 126)) := (Below.refl _ _).alloc (Nat.le_refl _) _
  cases hv : live t r with
  | false =>
    have hN : getN t r = nd0 := by unfold getN; unfold live at hv; cases e : ndAt t r with | none => rfl | some x => rw [e] at hv; cases hv
    rw [hN]
    rw [hv] at hE HH
    have HE := Lib.hid (hE.out.trans (if_neg (by decide)))
    have HBa := Lib.hid hba
    clear h hN hv hE hba
    go_enter Tryz.func64, Tryz.ntmps64
    go_wp2_with fail
    refine (HH.out _ HBa.out).mono ?_; rintro e w1 ⟨rfl, rfl⟩
    go_wp2_with fail
    exact bodyPost_ret (v := .tuple #[ndV nd0 none 0 none 0, .int .i64 4]) (by simp [results, Tryz.results64, go_sem, ndV, nd0]) rfl ⟨_, _, _, _, by rw [HE.out], .inl rfl, .inl rfl, by first | exact HBa.out | exact (((HBa.out.setCell (Nat.le_refl _) _).setCell (Nat.le_refl _) _).setCell (Nat.le_refl _) _).setCell (Nat.le_refl _) _⟩
  | true =>
    have hbd := live_bound hv
    obtain ⟨n, hn⟩ := live_iff.1 hv
    obtain ⟨i, hi, hin⟩ := ndAt_some hn
    have hN : getN t r = n := by unfold getN; rw [hn]; rfl
    have hil : i < t.length := by omega
    have hlen := h.len
    have hwd := h.wide
    obtain ⟨gS, q, hAS, hgS, hq, q0, _⟩ := h.slot hil
    obtain ⟨g, hq1, hnd⟩ := h.at1 i n hin
    rw [hq] at hq1
    cases hq1
    change w.cell? ⟨gS, i, none⟩ = some (.pointer (some ⟨g, 0, none⟩)) at q0
    obtain ⟨_, B, cb, C, cc, ⟨m0, m1, m2, m3⟩, hB, hC⟩ := hnd
    have hfn := hft r n hn
    rw [hN]
    rw [hv] at hE HH
    have HE := Lib.hid (hE.out.trans (if_pos rfl))
    have c1 := h.c1
    rw [hAS] at c1
    have e1 : r - 1 = (i : Int) := by omega
    have hwi : IntKind.i64.wrap (i : Int) = (i : Int) := by rw [IntKind.wrap_i64]; omega
    have n0 := keep_cell hba (show w.cell? ⟨g, 0, none⟩ = some (.int .i64 n.kind) from m0)
    have n1 := keep_cell hba (show w.cell? ⟨g, 1, none⟩ = some (.slice B n.refs.length cb) from m1)
    have n2 := keep_cell hba (show w.cell? ⟨g, 2, none⟩ = some (.slice C n.nums.length cc) from m2)
    have n3 := keep_cell hba (show w.cell? ⟨g, 3, none⟩ = some (.string ⟨n.text.toArray⟩) from m3)
    have c1' := keep_cell hba c1
    have q0' := keep_cell hba q0
    have hal : w.heap.size < (w.alloc (.cells #[.int .i64 0, .slice none 0 0, .slice none 0 0, .string ⟨#[]⟩] 126)).heap.size := by simp
    have HBa := Lib.hid hba
    have hblk2 := (MapKept.heap_alloc (w.alloc (.cells #[.int .i64 0, .slice none 0 0, .slice none 0 0, .string ⟨#[]⟩] 126)) (.cells #[.int .i64 n.kind, .slice B n.refs.length cb, .slice C n.nums.length cc, .string ⟨n.text.toArray⟩] 126)).1
    rw [show (w.alloc (.cells #[.int .i64 0, .slice none 0 0, .slice none 0 0, .string ⟨#[]⟩] 126)).heap.size = w.heap.size + 1 by simp] at hblk2
    have hba2 : Below w.heap.size w ((w.alloc (.cells #[.int .i64 0, .slice none 0 0, .slice none 0 0, .string ⟨#[]⟩] 126)).alloc (.cells #[.int .i64 n.kind, .slice B n.refs.length cb, .slice C n.nums.length cc, .string ⟨n.text.toArray⟩] 126)) := hba.alloc hba.size _
    have HN0 : Hid (At4 ((w.alloc (.cells #[.int .i64 0, .slice none 0 0, .slice none 0 0, .string ⟨#[]⟩] 126)).alloc (.cells #[.int .i64 n.kind, .slice B n.refs.length cb, .slice C n.nums.length cc, .string ⟨n.text.toArray⟩] 126)) (w.heap.size + 1) 0 n B cb C cc) := Lib.hid ⟨by rw [Lib.cell_of_heap hblk2]; rfl, by rw [Lib.cell_of_heap hblk2]; rfl, by rw [Lib.cell_of_heap hblk2]; rfl, by rw [Lib.cell_of_heap hblk2]; rfl⟩
    have HF0 : Hid (∀ j, ((w.alloc (.cells #[.int .i64 0, .slice none 0 0, .slice none 0 0, .string ⟨#[]⟩] 126)).alloc (.cells #[.int .i64 n.kind, .slice B n.refs.length cb, .slice C n.nums.length cc, .string ⟨n.text.toArray⟩] 126)).frozen? ⟨w.heap.size + 1, j, none⟩ = false) := Lib.hid fun j => by unfold World.frozen?; rw [hblk2]; simp
    have hblk1 : ((w.alloc (.cells #[.int .i64 0, .slice none 0 0, .slice none 0 0, .string ⟨#[]⟩] 126)).alloc (.cells #[.int .i64 n.kind, .slice B n.refs.length cb, .slice C n.nums.length cc, .string ⟨n.text.toArray⟩] 126)).heap[w.heap.size]? = some (.cells #[.int .i64 0, .slice none 0 0, .slice none 0 0, .string ⟨#[]⟩] 126) := by
      rw [Below.heap_alloc _ _ _ (by simp)]
      exact (MapKept.heap_alloc w _).1
    have HX1 := Lib.hid hblk1
    have HSz : Hid (((w.alloc (.cells #[.int .i64 0, .slice none 0 0, .slice none 0 0, .string ⟨#[]⟩] 126)).alloc (.cells #[.int .i64 n.kind, .slice B n.refs.length cb, .slice C n.nums.length cc, .string ⟨n.text.toArray⟩] 126)).heap.size = w.heap.size + 2) := Lib.hid (by simp)
    have hB0 := hB.below hba2
    have hC0 := hC.below hba2
    have hl1 : n.refs.length ≤ 100000 := by have := hfn.1.1; omega
    have hl2 : n.nums.length ≤ 100000 := by have := hfn.1.2.1; omega
    have HBb := Lib.hid hba2
    generalize t.length = TN at *
    clear hblk1 hblk2 hba2 hB hC
    clear h hN hv hE hn hin hq c1 q0 m0 m1 m2 m3 hft hi hbd
    go_enter Tryz.func64, Tryz.ntmps64
    go_wp2_with fail
    refine (HH.out _ HBa.out).mono ?_; rintro e w1 ⟨rfl, rfl⟩
    go_wp2_with fail
    clear n0 n1 n2 n3 c1' q0' hal
    generalize ((w.alloc (.cells #[.int .i64 0, .slice none 0 0, .slice none 0 0, .string ⟨#[]⟩] 126)).alloc (.cells #[.int .i64 n.kind, .slice B n.refs.length cb, .slice C n.nums.length cc, .string ⟨n.text.toArray⟩] 126)) = W0 at *
    have HR1 := Lib.hid (fun w' (hb : Below W0.heap.size W0 w') => pclone_row n.refs B cb w' K (hB0.below hb) hl1)
    have HC1 := Lib.hid (fun w' (hb : Below W0.heap.size W0 w') => pclone_row n.nums C cc w' K (hC0.below hb) hl2)
    have n1 : W0.cell? ⟨w.heap.size + 1, 1, none⟩ = some (.slice B n.refs.length cb) := HN0.out.2.1
    have n2 : W0.cell? ⟨w.heap.size + 1, 2, none⟩ = some (.slice C n.nums.length cc) := HN0.out.2.2.1
    have hzX : w.heap.size + 1 < W0.heap.size := by rw [HSz.out]; omega
    clear hB0 hC0
    go_cut [27] from 25 to 32 (fun s27 wx => PutR W0 (w.heap.size + 1) (w.heap.size + 1) n wx)
    case first =>
      go_region_law (first
        | (go_simp; go_at_call 77
           refine (HR1.out _ (by with_reducible repeat' (first | exact Below.refl _ _ | refine Below.drew ?_))).mono ?_; rintro e w1 ⟨R, cR, rfl, hR1, hb1'⟩
           have hb1 : Below W0.heap.size W0 w1 := by first | exact hb1' | exact (Below.drew (Below.refl W0.heap.size W0)).trans hb1'
           have y1 := keep_cell hb1 n1
           have y2 := keep_cell hb1 n2)
        | (go_simp; go_at_call 77
           refine (HC1.out _ hb1).mono ?_; rintro e w2 ⟨C2, cC, rfl, hC2, hb2'⟩
           have hb2 : Below W0.heap.size W0 w2 := hb1.trans (hb2'.mono hb1.size)
           have z1 := keep_cell hb2 n1
           have z2 := keep_cell hb2 n2
           have f1 : w2.frozen? ⟨w.heap.size + 1, 1, none⟩ = false := keep_frozen hb2 hzX (HF0.out 1)
           have f2 : w2.frozen? ⟨w.heap.size + 1, 2, none⟩ = false := keep_frozen hb2 hzX (HF0.out 2)))
      all_goals
        go_wp2_with fail
        go_meet
        case rel =>
          have hst : ∀ k, k ≠ w.heap.size + 1 → ((w2.setCell ⟨w.heap.size + 1, 1, none⟩ (.slice R n.refs.length cR)).setCell ⟨w.heap.size + 1, 2, none⟩ (.slice C2 n.nums.length cC)).heap[k]? = w2.heap[k]? := fun k hk => (Below.heap_setCell _ ⟨w.heap.size + 1, 2, none⟩ _ k hk).trans (Below.heap_setCell _ ⟨w.heap.size + 1, 1, none⟩ _ k hk)
          exact ⟨R, cR, C2, cC, at4_set (⟨keep_cell hb2 HN0.out.1, z1, z2, keep_cell hb2 HN0.out.2.2.2⟩ : At4 w2 (w.heap.size + 1) 0 n B cb C cc) rfl rfl, ((hR1.below hb2').mono fun g hg _ => hg).kept ⟨by simp, fun k hk _ => hst k (by have h : W0.heap.size ≤ k := hk; omega)⟩, (hC2.mono fun g hg _ => Nat.le_trans hb1.size hg).kept ⟨by simp, fun k hk _ => hst k (by have h : W0.heap.size ≤ k := hk; omega)⟩, ((hb2.mono (Nat.le_of_lt hzX)).setCell (Nat.le_refl _) _).setCell (Nat.le_refl _) _, fun j => by rw [World.frozen?_setCell, World.frozen?_setCell]; exact keep_frozen hb2 hzX (HF0.out j)⟩
    case rest =>
      obtain ⟨R, cR, C2, cC, ⟨x0, x1, x2, x3⟩, hxr, hxn, hbc, _⟩ := hcut
      change wc.cell? ⟨w.heap.size + 1, 0, none⟩ = _ at x0
      change wc.cell? ⟨w.heap.size + 1, 1, none⟩ = _ at x1
      change wc.cell? ⟨w.heap.size + 1, 2, none⟩ = _ at x2
      change wc.cell? ⟨w.heap.size + 1, 3, none⟩ = _ at x3
      have hX1 : wc.heap[w.heap.size]? = some (.cells #[.int .i64 0, .slice none 0 0, .slice none 0 0, .string ⟨#[]⟩] 126) := (hbc.block _ (by omega)).trans HX1.out
      have y0 : wc.cell? ⟨w.heap.size, 0, none⟩ = some (.int .i64 0) := Lib.cell_of_heap hX1 0
      have y1 : wc.cell? ⟨w.heap.size, 1, none⟩ = some (.slice none 0 0) := Lib.cell_of_heap hX1 1
      have y2 : wc.cell? ⟨w.heap.size, 2, none⟩ = some (.slice none 0 0) := Lib.cell_of_heap hX1 2
      have y3 : wc.cell? ⟨w.heap.size, 3, none⟩ = some (.string ⟨#[]⟩) := Lib.cell_of_heap hX1 3
      have z0 : wc.frozen? ⟨w.heap.size, 0, none⟩ = false := by unfold World.frozen?; rw [hX1]; simp
      have z1 : wc.frozen? ⟨w.heap.size, 1, none⟩ = false := by unfold World.frozen?; rw [hX1]; simp
      have z2 : wc.frozen? ⟨w.heap.size, 2, none⟩ = false := by unfold World.frozen?; rw [hX1]; simp
      have z3 : wc.frozen? ⟨w.heap.size, 3, none⟩ = false := by unfold World.frozen?; rw [hX1]; simp
      have HBc : Hid (Below w.heap.size w wc) := Lib.hid (HBb.out.trans (hbc.mono (Nat.le_succ _)))
      have HXr := Lib.hid hxr
      have HXn := Lib.hid hxn
      have hszc : W0.heap.size ≤ wc.heap.size := hbc.size
      clear hxr hxn hbc hX1
      go_wp2_with fail
      have hst : ∀ k, k ≠ w.heap.size → ((((wc.setCell ⟨w.heap.size, 0, none⟩ (.int .i64 n.kind)).setCell ⟨w.heap.size, 1, none⟩ (.slice R n.refs.length cR)).setCell ⟨w.heap.size, 2, none⟩ (.slice C2 n.nums.length cC)).setCell ⟨w.heap.size, 3, none⟩ (.string ⟨n.text.toArray⟩)).heap[k]? = wc.heap[k]? := fun k hk => (Below.heap_setCell _ ⟨w.heap.size, 3, none⟩ _ k hk).trans ((Below.heap_setCell _ ⟨w.heap.size, 2, none⟩ _ k hk).trans ((Below.heap_setCell _ ⟨w.heap.size, 1, none⟩ _ k hk).trans (Below.heap_setCell _ ⟨w.heap.size, 0, none⟩ _ k hk)))
      exact bodyPost_ret (v := .tuple #[ndV n R cR C2 cC, .int .i64 0]) (by simp [results, Tryz.results64, go_sem, ndV, y0, y1, y2, y3]) rfl
        ⟨R, cR, C2, cC, by rw [HE.out], (HXr.out.kept ⟨by simp, fun k hk _ => hst k (by have h : W0.heap.size ≤ k := hk; omega)⟩).mono (fun g hg _ => (show w.heap.size ≤ g by have h : W0.heap.size ≤ g := hg; omega)), (HXn.out.kept ⟨by simp, fun k hk _ => hst k (by have h : W0.heap.size ≤ k := hk; omega)⟩).mono (fun g hg _ => (show w.heap.size ≤ g by have h : W0.heap.size ≤ g := hg; omega)), (((HBc.out.setCell (Nat.le_refl _) _).setCell (Nat.le_refl _) _).setCell (Nat.le_refl _) _).setCell (Nat.le_refl _) _⟩
end
end Go.Proofs.YtjgjacihdggimaaGreatDoor
namespace Go.Proofs.YtjgjacihdggimaaGreatDoor
open Go.RowKit Go.Maps
theorem run_makeMap9 (w : World) : (Instr.makeMap 61 none).run Tryz.prog w = .ok (.map (some w.heap.size)) (w.alloc (.map #[] 0)) := rfl
def NewQ (w : World) (r : Int) (e : Ending) (w' : World) : Prop :=
  (0 ≤ r ∧ r ≤ 65536 → ∃ a b, e = .returned (.tuple #[.pointer (some ⟨a, 0, none⟩), .int .i64 0]) ∧ w.heap.size ≤ a ∧ w.heap.size ≤ b ∧ AR w' (fun _ => False) a r.toNat [] [] [] none 0 b 0) ∧ (¬ (0 ≤ r ∧ r ≤ 65536) → e = .returned (.tuple #[.pointer none, .int .i64 1])) ∧ Below w.heap.size w w'
set_option maxHeartbeats 4000000 in
set_option maxRecDepth 10000 in
theorem pNew_any (w : World) (r : Int) : Calls Tryz.prog 6 #[.int .i64 r] w fun e w' => NewQ w r e w' := by
  by_cases h1 : r < 0
  · have d1 : decide (r < 0) = true := decide_eq_true h1
    go_enter Tryz.func6, Tryz.ntmps6
    go_wp2_with fail
    go_ret2
    exact ⟨fun h => absurd h (by omega), fun _ => rfl, Below.refl _ _⟩
  · have d1 : decide (r < 0) = false := decide_eq_false h1
    by_cases h2 : 65536 < r
    · have d2 : decide (65536 < r) = true := decide_eq_true h2
      go_enter Tryz.func6, Tryz.ntmps6
      go_wp2_with fail
      go_ret2
      exact ⟨fun h => absurd h (by omega), fun _ => rfl, Below.refl _ _⟩
    · have d2 : decide (65536 < r) = false := decide_eq_false h2
      obtain ⟨room, rfl⟩ : ∃ room : Nat, r = (room : Int) := ⟨r.toNat, by omega⟩
      have hmk := run_makeMap9 w
      go_enter Tryz.func6, Tryz.ntmps6
      go_wp2_with fail
      go_ret2
      have hb : Below w.heap.size w (w.alloc (.map #[] 0)) := (Below.refl _ _).alloc (Nat.le_refl _) _
      have hblk := (MapKept.heap_alloc (w.alloc (.map #[] 0)) (.cells #[.int .i64 (room : Int), .slice none 0 0, .map (some w.heap.size), .int .i64 0] 64)).1
      have hs : (w.alloc (.map #[] 0)).heap.size = w.heap.size + 1 := by simp
      rw [hs] at hblk
      refine ⟨fun _ => ⟨w.heap.size + 1, w.heap.size, rfl, by omega, Nat.le_refl _, ?_⟩, fun h => absurd (by omega) h, hb.alloc hb.size _⟩
      rw [show ((room : Int)).toNat = room by omega]
      exact {
        c0 := by rw [Lib.cell_of_heap hblk]; rfl
        c1 := by rw [Lib.cell_of_heap hblk]; rfl
        c2 := by rw [Lib.cell_of_heap hblk]; rfl
        c3 := by rw [Lib.cell_of_heap hblk]; rfl
        fA := fun j => by unfold World.frozen?; rw [hblk]; simp
        row := World.ownsRow_nil _ _ _ _
        psl := rfl
        at0 := fun i hi => by simp at hi
        at1 := fun i n hi => by simp at hi
        map := (MapA.made w).block (Below.heap_alloc _ _ _ (by simp))
        ka := fun h => h
        kb := fun h => h
        ab := by omega
        ks := fun g o e => by cases e
        wide := by omega
        len := Nat.zero_le _
        low1 := Nat.le_refl _
        kl := fun g h => h.elim }
section
variable {w : World} {K : Nat → Prop} {a room cS bK low : Nat} {ps : List (Option Nat)} {t tm : Sh} {SA : Option Addr}
end
end Go.Proofs.YtjgjacihdggimaaGreatDoor
