/- Texts joined: NeD. -/
import Derived.Test.YtbjbbpbagnlkmaaDoorMs09
set_option linter.all false
namespace Go.Proofs.YtbjbbpbagnlkmaaDoor
open Go.RowKit
section
variable {EV : World → Prop} {AP : World → (Nat → Prop) → Nat → Nat → Sh → Prop}
set_option maxHeartbeats 16000000 in
set_option maxRecDepth 10000 in
theorem lstays_any (w : World) (hC : AC w.heap.size EV AP) (hE : EV w) (hAl : AliveC w) (room : Nat) (hrm : room ≤ 255) (l : List AcM) (A : Option Addr) (ca : Nat) (hl : ActsA w l A) (ks : List Int) (KA : Option Addr) (kc : Nat) (hks : RowU w (fun g => g < w.heap.size) KA ks) (hkl : ks.length ≤ maxLen) (hkb : ∀ x ∈ ks, 0 ≤ x ∧ x ≤ 255) :
    Calls Tryd.prog 4 #[.int .u8 (room : Int), .slice A l.length ca, .slice KA ks.length kc] w fun e w' => e = .returned (.bool true) ∧ Below w.heap.size w w' := by
  have HCw := Lib.hid hC
  have HE := Lib.hid hE
  have HAl := Lib.hid hAl
  have HL := Lib.hid hl
  have HKs := Lib.hid hks
  have HKb := Lib.hid hkb
  have HF := Lib.hid (lfits_any l A ca w hl.row hl.len (fun q hq => ⟨(hl.ok q hq).2.1.1, (hl.ok q hq).2.1.2, fun n hn => ((hl.ok q hq).2.2.2 n hn).1⟩))
  unfold maxLen at hkl
  clear hC hE hAl hl hks hkb
  go_enter Tryd.func4, Tryd.ntmps4
  go_wp2_with fail
  refine HF.out.mono ?_; rintro e w0 ⟨b, rfl, hfit, hb0⟩
  have HB0 := Lib.hid hb0
  have HFit := Lib.hid hfit
  have HC := Lib.hid (HCw.out.up hb0.size)
  have HE0 := Lib.hid (HCw.out.on HE.out hb0)
  clear hb0 hfit HF HCw HE
  have hwr : IntKind.i64.wrap (room : Int) = (room : Int) := by rw [IntKind.wrap_i64]; omega
  go_wp2_with fail
  refine (oNew w0 HC.out HE0.out room (by omega)).mono ?_; rintro e w1 ⟨a, K1, rfl, hO1, hk1, hb1⟩
  have HO1 := Lib.hid hO1
  have Hk1 := Lib.hid hk1
  have HB1 := Lib.hid hb1
  have hsz := HB0.out.size
  have HBw1 := Lib.hid (HB0.out.trans (hb1.mono hsz))
  clear hO1 hk1 hb1 hwr HE0
  by_cases hbig : b = false ∨ 200 < ks.length
  · cases b with
    | false =>
      go_wp2_with fail
      refine (HAl.out _ HBw1.out).mono ?_; rintro e w2 ⟨rfl, hb2⟩
      have HB2 := Lib.hid (HBw1.out.trans (hb2.mono HBw1.out.size))
      clear hb2
      go_wp2_with fail
      go_ret
      exact ⟨rfl, HB2.out⟩
    | true =>
      have hk2 : 200 < ks.length := by rcases hbig with e | e; cases e; exact e
      have hd : decide ((200 : Int) < (ks.length : Int)) = true := decide_eq_true (by omega)
      go_wp2_with fail
      refine (HAl.out _ HBw1.out).mono ?_; rintro e w2 ⟨rfl, hb2⟩
      have HB2 := Lib.hid (HBw1.out.trans (hb2.mono HBw1.out.size))
      clear hb2
      go_wp2_with fail
      go_ret
      exact ⟨rfl, HB2.out⟩
  · have hbt : b = true := by cases b with | true => rfl | false => exact absurd (.inl rfl) hbig
    subst hbt
    have hkl2 : ks.length ≤ 200 := by omega
    have hd : decide ((200 : Int) < (ks.length : Int)) = false := decide_eq_false (by omega)
    obtain ⟨hll, hfa⟩ := HFit.out rfl
    have HFa := Lib.hid (HL.out.fits hfa)
    clear hfa HFit hbig
    go_wp2_with fail
    go_loopw [10, 11, 12, 13, 14, 15] (fun vi _ _ _ _ _ wr => ∃ (i : Nat) (s : Sh) (K : Nat → Prop), i ≤ l.length ∧ vi = .int .i64 (i : Int) ∧ Hid (One AP wr w0.heap.size a room s K) ∧ Hid (∀ g, g < w0.heap.size → K g) ∧ Hid (Below w0.heap.size w0 wr)) (fun vi _ _ _ _ _ _ => l.length - (RowKit.intOf vi).toNat)
    case atStart => exact ⟨0, [], K1, Nat.zero_le _, rfl, HO1, Hk1, HB1⟩
    case round =>
      obtain ⟨i, s, K, hi, rfl, HO, HK, HB⟩ := hrel
      by_cases hlt : i < l.length
      · obtain ⟨q, hq⟩ : ∃ q, l[i]? = some q := ⟨_, List.getElem?_eq_getElem hlt⟩
        have hbw : Below w.heap.size w wr := HB0.out.trans (HB.out.mono hsz)
        obtain ⟨g, o, hAe, hgl, hgs, hat⟩ := HL.out.row.at hlt
        obtain ⟨⟨c0w, c1w, c2w⟩, hNw, hIw⟩ := hat i q hq
        have c0 := keep_cell hbw c0w
        have c1 := keep_cell hbw c1w
        have c2 := keep_cell hbw c2w
        have hN := hNw.below hbw
        have hI := hIw.below hbw
        have HAt := Lib.hid (fun w' (hb : Below w.heap.size w w') => And.intro (keep_cell hb c1w) (hNw.below hb))
        obtain ⟨f1, f2, f3, f4, f5⟩ := HFa.out q (List.mem_of_getElem? hq)
        have hKw : ∀ g, g < w.heap.size → K g := fun g hg => HK.out g (by omega)
        have HN := Lib.hid (hN.mono (Q := K) fun g hg _ => hKw g hg)
        have HIr := Lib.hid (hI.mono (Q := K) fun g hg _ => hKw g hg)
        have HF1 := Lib.hid f1
        have HF2 := Lib.hid f2
        have HF3 := Lib.hid f3
        have hro := f1.1
        have hLl := f1.2.1
        subst hAe
        clear hat hN hI hq f1 f2 f3 c0w c1w c2w hNw hIw
        by_cases h5 : q.kind % 8 = 5
        · obtain ⟨⟨s2, n2, c2'⟩, hsw⟩ : ∃ t, sweepA s q.roots = t := ⟨_, rfl⟩
          have HSw := Lib.hid (oSweep HC.out HO.out q.roots q.RA q.rc HIr.out (by omega) HF3.out hsw)
          clear hsw hKw hbw
          go_wp2_with fail
          refine HSw.out.mono ?_; rintro e w3 ⟨K3, rfl, hO3, hK3, hk3, hb3⟩
          have HO3 := Lib.hid hO3
          have HK3 : Hid (∀ g, g < w0.heap.size → K3 g) := Lib.hid fun g hg => hK3 g (HK.out g hg)
          have HB3 := Lib.hid (HB.out.trans hb3)
          clear hO3 hK3 hk3 hb3 HSw c0 c1 c2
          go_wp2_with fail
          go_roundw
          case rel => exact ⟨i + 1, s2, K3, by omega, by go_num, HO3, HK3, HB3⟩
          case measure => simp [RowKit.intOf]; omega
        · have k5 : (q.kind % 8 == 5) = false := beq_eq_false_iff_ne.2 h5
          obtain ⟨⟨s2, out, c⟩, hput⟩ : ∃ t, putA room s q.L = t := ⟨_, rfl⟩
          have HP := Lib.hid (oPut HC.out HO.out q.L q.LA q.lc HN.out hLl HF2.out hput)
          have HOk : Hid (c = 0 → out.length = q.L.length ∧ ∀ (k : Nat) (n : Nd), q.L[k]? = some n → ∃ h x, out[k]? = some h ∧ ndAt s2 h = some x ∧ x.kind = n.kind ∧ x.text = n.text) := Lib.hid fun e => by
            have := put_ok (room := room) (s := s) (l := q.L) (by rw [hput]; exact e)
            rw [hput] at this; exact this
          have HNo : Hid (c ≠ 0 → out = []) := Lib.hid fun e => by
            have := (put_no (room := room) (s := s) (l := q.L) (by rw [hput]; exact e)).1
            rw [hput] at this; exact this
          have Hbw := Lib.hid hbw
          clear hput hKw hbw h5
          go_wp2_with fail
          refine HP.out.mono ?_; rintro e w3 ⟨O, co, K3, rfl, rO, hO3, hK3, hk3, hb3⟩
          have HO3 := Lib.hid hO3
          have HK3 : Hid (∀ g, g < w0.heap.size → K3 g) := Lib.hid fun g hg => hK3 g (HK.out g hg)
          have HB3 := Lib.hid (HB.out.trans hb3)
          have HrO := Lib.hid rO
          have c1' := (HAt.out _ (HB0.out.trans (HB3.out.mono hsz))).1
          have hiI : (i : Int) < (l.length : Int) := by omega
          clear hO3 hK3 hk3 hb3 rO HP c0 c1 c2
          by_cases hc : c = 0
          · subst hc
            obtain ⟨hlo, hats⟩ := HOk.out rfl
            have Hats := Lib.hid hats
            have hlo2 : out.length ≤ 200 := by omega
            have hloI : ((out.length : Int) != (q.L.length : Int)) = false := by rw [hlo]; simp
            have Hlo := Lib.hid hlo
            clear hats HOk HNo hlo
            by_cases hL : q.L = []
            · have hout : out = [] := List.length_eq_zero_iff.1 (by rw [Hlo.out, hL]; rfl)
              subst hout
              have hz : ((0 : Int) != (q.L.length : Int)) = false := by rw [hL]; rfl
              clear hL hloI
              go_wp2_with fail
              clear c1' hz
              go_loopw [13, 14, 15] (fun vk _ _ wr2 => vk = .int .i64 0 ∧ wr2 = w3) (fun _ _ _ _ => 0)
              case atStart => exact ⟨rfl, rfl⟩
              case round =>
                obtain ⟨rfl, rfl⟩ := hrel
                go_wp2_with fail
                go_roundw
                case rel => exact ⟨i + 1, s2, K3, by omega, by go_num, HO3, HK3, HB3⟩
                case measure => simp [RowKit.intOf]; omega
            · obtain ⟨g5, o5, hLAe, _⟩ := (HAt.out w (Below.refl _ _)).2.at (i := 0) (by rcases e : q.L with _ | ⟨x, t⟩; exact absurd e hL; simp)
              have HLA0 := Lib.hid hLAe
              clear hL hLAe
              go_wp2_with fail
              clear c1' hloI
              rw [HLA0.out]
              have HLA := HLA0
              go_loopw [13, 14, 15] (fun vk _ _ wr2 => ∃ (k : Nat) (K2 : Nat → Prop), k ≤ out.length ∧ vk = .int .i64 (k : Int) ∧ Hid (One AP wr2 w0.heap.size a room s2 K2) ∧ Hid (∀ g, g < w0.heap.size → K2 g) ∧ Hid (RowI wr2 K2 O out) ∧ Hid (Below w0.heap.size w0 wr2)) (fun vk _ _ _ => out.length - (RowKit.intOf vk).toNat)
              case atStart => exact ⟨0, K3, Nat.zero_le _, rfl, HO3, HK3, HrO, HB3⟩
              case round =>
                obtain ⟨k, K2, hk, rfl, HO2, HK2, HrO2, HB2⟩ := hrel
                by_cases hkl : k < out.length
                · obtain ⟨n, hn⟩ : ∃ n, q.L[k]? = some n := ⟨_, List.getElem?_eq_getElem (by have := Hlo.out; omega)⟩
                  obtain ⟨x, N, hx, hN2, hNk, hNt⟩ := Hats.out k n hn
                  obtain ⟨g3, o3, hOe, _, _, hc3⟩ := HrO2.out.at hkl
                  have e0 := hc3 k x hx
                  have hlv : live s2 x = true := live_iff.2 ⟨N, hN2⟩
                  have hGN : getN s2 x = N := by unfold getN; rw [hN2]; rfl
                  have hGE : getE s2 x = 0 := by unfold getE; rw [if_pos hlv]
                  have HG := Lib.hid (oGet HC.out HO2.out x (HO2.out.ints hlv (by omega)))
                  rw [hGN, hGE] at HG
                  unfold ndV at HG
                  rw [hNk, hNt] at HG
                  have Hn := Lib.hid hn
                  subst hOe
                  have hkI : (k : Int) < (out.length : Int) := by omega
                  clear hn hx hN2 hNk hNt hlv hGN hGE hc3
                  go_wp2_with fail
                  refine HG.out.mono ?_; rintro e w4 ⟨A4, k4, D4, d4, K4, rfl, r1, r2, hO4, hK4, hk4, hb4⟩
                  have a1 := One.al' HC.out hO4 (.cells #[.int .i64 n.kind, .slice A4 N.refs.length k4, .slice D4 N.nums.length d4, .string ⟨n.text.toArray⟩] 40)
                  have HO5 := Lib.hid a1.1
                  have HK5 : Hid (∀ g, g < w0.heap.size → (fun g => K4 g ∨ g = w4.heap.size) g) := Lib.hid fun g hg => .inl (hK4 g (HK2.out g hg))
                  have HrO5 := Lib.hid (((HrO2.out.kept hk4).mono (Q := K4) fun g hg _ => hK4 g hg).wide' a1.2.1 a1.2.2.2)
                  have HB5 := Lib.hid ((HB2.out.trans hb4).trans a1.2.2.1)
                  have hbW := HB0.out.trans (HB5.out.mono hsz)
                  obtain ⟨u1, uN⟩ := HAt.out _ hbW
                  rw [HLA.out] at u1 uN
                  obtain ⟨g6, o6, hLA6, _, _, hat5⟩ := uN.at (i := k) (by have := Hlo.out; omega)
                  cases hLA6
                  obtain ⟨_, _, _, _, ⟨v0, _, _, v3⟩, _, _⟩ := hat5 k n Hn.out
                  have hkL : (k : Int) < (q.L.length : Int) := by have := Hlo.out; omega
                  clear r1 r2 hO4 hK4 hk4 hb4 a1 hbW uN hat5 HG e0
                  go_wp2_with fail
                  go_quiet (fail)
                  go_wp2_with fail
                  go_roundw
                  case rel => exact ⟨k + 1, _, by omega, by go_num, Lib.hid (One.draw HC.out HO5.out _), HK5, Lib.hid (HrO5.out.below (below_drewN (Below.refl _ _) _)), Lib.hid (below_drewN HB5.out _)⟩
                  case measure => simp [RowKit.intOf]; omega
                · have hkk : k = out.length := by omega
                  subst hkk
                  go_wp2_with fail
                  go_roundw
                  case rel => exact ⟨i + 1, s2, K2, by omega, by go_num, HO2, HK2, HB2⟩
                  case measure => simp [RowKit.intOf]; omega
          · obtain rfl := HNo.out hc
            have hcI : ((c : Int) == 0) = false := beq_eq_false_iff_ne.2 (by omega)
            have hcN : (c == 0) = false := beq_eq_false_iff_ne.2 hc
            clear HOk HNo hc
            go_wp2_with fail
            go_loopw [13, 14, 15] (fun vk _ _ wr2 => vk = .int .i64 0 ∧ wr2 = w3) (fun _ _ _ _ => 0)
            case atStart => exact ⟨rfl, rfl⟩
            case round =>
              obtain ⟨rfl, rfl⟩ := hrel
              go_wp2_with fail
              go_roundw
              case rel => exact ⟨i + 1, s2, K3, by omega, by go_num, HO3, HK3, HB3⟩
              case measure => simp [RowKit.intOf]; omega
      · have hii : i = l.length := by omega
        subst hii
        have hinv := HO.out.inv
        have HInv := Lib.hid hinv
        have hlvl : (liveA s).length ≤ 255 := by have h1 := liveF_len s 1; have h2 := hinv.len; unfold liveA; omega
        clear hinv HFa HL HO1 Hk1 HB1 HBw1 hll
        go_wp2_with fail
        refine (oLive HC.out HO.out).mono ?_; rintro e w3 ⟨O, co, K3, rfl, rO, hO3, hK3, hk3, hb3⟩
        have HO3 := Lib.hid hO3
        have HK3 : Hid (∀ g, g < w0.heap.size → K3 g) := Lib.hid fun g hg => hK3 g (HK.out g hg)
        have HB3 := Lib.hid (HB.out.trans hb3)
        have HS0 : Hid (w0.heap.size ≤ w3.heap.size) := Lib.hid hO3.base
        have HW3 : Hid (Was w3 K3 w3.heap.size (.slice none 0 0) O (liveA s) []) := Lib.hid (.nil rO)
        have HLv := Lib.hid (fun i x (hx : (liveA s)[i]? = some x) => (show live s x = true from liveA_mem.1 (List.mem_of_getElem? hx)))
        have hft := HO.out.fits' HC.out
        have HFt := Lib.hid (fun x N (_ : True) (h : getN s x = N) => (show N.refs.length ≤ 1000000 ∧ N.nums.length ≤ 1000000 from h ▸ hft x))
        have HAp := Lib.hid (fun i k x y (hx : (liveA s)[i]? = some x) (hy : (liveA s)[k]? = some y) hik => live_apart HInv.out hx hy hik)
        clear hO3 hK3 hk3 hb3 rO HO HK HB
        generalize hLe : liveA s = LV at *
        have HLe := Lib.hid hLe
        clear hLe
        obtain ⟨i0, hi0, hz0, hz1, hz2⟩ := info_parts anode_info
        have HI0 := Lib.hid (And.intro hi0 (And.intro hz0 (And.intro hz1 hz2)))
        clear hi0 hz0 hz1 hz2
        go_wp2_with fail
        go_loopw [17, 18, 19, 20, 21, 22] (fun v vi _ _ _ _ wr => ∃ (i : Nat) (K : Nat → Prop) (L : List NdM), i ≤ LV.length ∧ vi = .int .i64 (i : Int) ∧ Hid (One AP wr w0.heap.size a room s K) ∧ Hid (∀ g, g < w0.heap.size → K g) ∧ Hid (Was wr K w3.heap.size v O LV L) ∧ Hid (L.map NdM.n = (LV.take i).map (getN s)) ∧ Hid (w3.heap.size ≤ wr.heap.size) ∧ Hid (Below w0.heap.size w0 wr)) (fun _ vi _ _ _ _ _ => LV.length - (RowKit.intOf vi).toNat)
        case atStart => exact ⟨0, K3, [], Nat.zero_le _, rfl, HO3, HK3, HW3, Lib.hid (by rw [List.take_zero]; rfl), Lib.hid (Nat.le_refl _), HB3⟩
        case round =>
          obtain ⟨i, K, L, hi, rfl, HO, HK, HW, HM, HS, HB⟩ := hrel
          have hLl : L.length = i := by
            have := congrArg List.length HM.out
            rw [List.length_map, List.length_map, List.length_take] at this
            omega
          have HLl := Lib.hid hLl
          clear hLl
          by_cases hlt : i < LV.length
          · obtain ⟨x, hx⟩ : ∃ x, LV[i]? = some x := ⟨_, List.getElem?_eq_getElem hlt⟩
            obtain ⟨g3, o3, hOe, _, _, hc3⟩ := HW.out.ints.at hlt
            have e0 := hc3 i x hx
            have hlv := HLv.out i x hx
            have hGE : getE s x = 0 := by unfold getE; rw [if_pos hlv]
            have HG := Lib.hid (oGet2 HC.out HO.out x (HO.out.ints hlv (by omega)))
            rw [hGE] at HG
            have Hx := Lib.hid hx
            generalize hNe : getN s x = N at *
            have HNe := Lib.hid hNe
            unfold ndV at HG
            subst hOe
            have hiI : (i : Int) < (LV.length : Int) := by omega
            clear hx hlv hGE hc3 hNe
            go_wp2_with fail
            refine HG.out.mono ?_; rintro e w4 ⟨A4, k4, D4, d4, K4, rfl, r1, r2, hO4, hK4, hk4, hb4⟩
            have HX5 := Lib.hid (C4.new w4 N A4 k4 D4 d4)
            have a1 := One.al' HC.out hO4 (.cells #[.int .i64 N.kind, .slice A4 N.refs.length k4, .slice D4 N.nums.length d4, .string ⟨N.text.toArray⟩] 40)
            have hwz := hk4.size
            have hown : ∀ k, u17.ownBlock = some k → k < wr.heap.size := fun k hk => (HW.out.lt k hk).2
            have hW4 := HW.out.keep hK4 hk4
            have hr5 : RowI w4 (fun g => K4 g ∧ ¬ u17.ownBlock = some g) A4 N.refs ∧ RowI w4 (fun g => K4 g ∧ ¬ u17.ownBlock = some g) D4 N.nums := ⟨r1.mono fun g hg _ => ⟨hg.1, fun e => by have := hown g e; have := hg.2; omega⟩, r2.mono fun g hg _ => ⟨hg.1, fun e => by have := hown g e; have := hg.2; omega⟩⟩
            have HO5 := Lib.hid a1.1
            have HK5 : Hid (∀ g, g < w0.heap.size → (fun g => K4 g ∨ g = w4.heap.size) g) := Lib.hid fun g hg => .inl (hK4 g (HK.out g hg))
            have HW5 := Lib.hid (hW4.keep (K' := fun g => K4 g ∨ g = w4.heap.size) (fun g h => .inl h) a1.2.1)
            have HR5 : Hid (RowI (w4.alloc (.cells #[.int .i64 N.kind, .slice A4 N.refs.length k4, .slice D4 N.nums.length d4, .string ⟨N.text.toArray⟩] 40)) (fun g => (K4 g ∨ g = w4.heap.size) ∧ ¬ u17.ownBlock = some g) A4 N.refs ∧ RowI (w4.alloc (.cells #[.int .i64 N.kind, .slice A4 N.refs.length k4, .slice D4 N.nums.length d4, .string ⟨N.text.toArray⟩] 40)) (fun g => (K4 g ∨ g = w4.heap.size) ∧ ¬ u17.ownBlock = some g) D4 N.nums) := Lib.hid ⟨(hr5.1.below ((Below.refl _ _).alloc (Nat.le_refl _) _)).mono fun g hg _ => ⟨.inl hg.1, hg.2⟩, (hr5.2.below ((Below.refl _ _).alloc (Nat.le_refl _) _)).mono fun g hg _ => ⟨.inl hg.1, hg.2⟩⟩
            have HB5 := Lib.hid ((HB.out.trans hb4).trans a1.2.2.1)
            have HS5 : Hid (w3.heap.size ≤ w4.heap.size) := Lib.hid (Nat.le_trans HS.out hwz)
            clear r1 r2 hO4 hK4 hk4 hb4 a1 hwz hown hW4 hr5 HO HK HW HS HB HG e0
            go_wp2_with fail
            generalize w4.alloc (.cells #[.int .i64 N.kind, .slice A4 N.refs.length k4, .slice D4 N.nums.length d4, .string ⟨N.text.toArray⟩] 40) = W5 at *
            generalize w4.heap.size = X at *
            obtain ⟨VA, vc, hv, hvc⟩ := HW5.out.shape
            rw [HLl.out] at hv hvc
            subst hv
            go_loopw [21, 22] (fun vk _ wr2 => ∃ k : Nat, k ≤ i ∧ vk = .int .i64 (k : Int) ∧ Hid (Below W5.heap.size W5 wr2)) (fun vk _ _ => i - (RowKit.intOf vk).toNat)
            case atStart => exact ⟨0, Nat.zero_le _, rfl, Lib.hid (Below.refl _ _)⟩
            case round =>
              obtain ⟨k, hk, rfl, HBk⟩ := hrel
              by_cases hki : k < i
              · obtain ⟨q, hq⟩ : ∃ q, L[k]? = some q := ⟨_, List.getElem?_eq_getElem (by rw [HLl.out]; exact hki)⟩
                obtain ⟨g6, o6, c6, hv6, _, hrow5⟩ := HW5.out.at hq
                rw [HLl.out] at hv6
                cases hv6
                obtain ⟨y, hy⟩ : ∃ y, LV[k]? = some y := ⟨_, List.getElem?_eq_getElem (by omega)⟩
                have hqn : q.n = getN s y := by
                  have := congrArg (fun t => t[k]?) HM.out
                  simp only [List.getElem?_map] at this
                  rw [hq, List.getElem?_take, if_pos hki, hy] at this
                  simpa using this
                have hfN : N.refs.length ≤ maxLen ∧ N.nums.length ≤ maxLen := by have := HFt.out x N trivial HNe.out; unfold maxLen; omega
                have hne : decide (N = q.n) = false := decide_eq_false (by rw [hqn, ← HNe.out]; exact HAp.out i k x y Hx.out hy hki)
                have HNd := Lib.hid (fun w' (hb : Below wr.heap.size wr w') => (show Calls Tryd.prog 21 #[.slice (some ⟨g6, o6 + k * 4, none⟩) 1 (vc - k)] w' (fun e w'' => ∃ O co, e = .returned (.slice O 1 co) ∧ RowN w'' (fun g => True ∨ w'.heap.size ≤ g) O [q.n] ∧ Below w'.heap.size w' w'') from lnodes_any [q.n] (some ⟨g6, o6 + k * 4, none⟩) (vc - k) w' (hrow5.below (HBk.out.trans (hb.mono HBk.out.size))) (by simp)))
                have HSm := Lib.hid (fun w' (hb : Below wr.heap.size wr w') B7 b7 C7 c7 G (tB : RowI w' G B7 q.n.refs) (tC : RowI w' G C7 q.n.nums) => lndsame_any N q.n A4 D4 B7 C7 k4 d4 b7 c7 w' _ _ (HR5.out.1.below (HBk.out.trans (hb.mono HBk.out.size))) (HR5.out.2.below (HBk.out.trans (hb.mono HBk.out.size))) tB tC hfN.1 hfN.2)
                rw [hne] at HSm
                unfold ndV at HSm
                have HXk := Lib.hid (HX5.out.below HBk.out)
                obtain ⟨hzw, p0, p1, p2, p3⟩ := HXk.out
                have hkI : (k : Int) < (i : Int) := by omega
                have hk1 : IntKind.i64.wrap ((k : Int) + 1) = (k : Int) + 1 := by rw [IntKind.wrap_i64]; omega
                have hkv : (k : Int) + 1 ≤ (vc : Int) := by omega
                have hkvN : k + 1 ≤ vc := by omega
                have hkvL : k < vc := by omega
                have hkvI : (k : Int) < (vc : Int) := by omega
                have hkvZ : ¬ (vc - k = 0) := by omega
                have hkvE : ¬ (vc = k) := by omega
                have hk0 : (0 : Int) ≤ (k : Int) := by omega
                have hkk : (k : Int) ≤ (k : Int) + 1 := by omega
                clear hy hqn hne hrow5 hq hfN
                go_wp2_with fail
                go_cut [22] from 169 to 178 (fun s22 wx => CmpR false wr s22 wx)
                case first =>
                  go_region_law (first
                    | (go_simp; go_at_call 21
                       refine (HNd.out _ (by with_reducible repeat' (first | exact Below.refl _ _ | refine Below.drew ?_))).mono ?_; rintro e w6 ⟨O2, co2, rfl, rN, hb6'⟩
                       have hb6 : Below wr.heap.size wr w6 := by first | exact hb6' | exact (Below.drew (Below.refl wr.heap.size wr)).trans hb6'
                       obtain ⟨g7, o7, rfl, _, _, hat7⟩ := rN.at (i := 0) (by simp)
                       obtain ⟨B7, b7, C7, c7, ⟨t0, t1, t2, t3⟩, tB, tC⟩ := hat7 0 q.n rfl
                       rw [Nat.zero_mul, Nat.add_zero] at t0 t1 t2 t3
                       obtain ⟨_, q0, q1, q2, q3⟩ := HXk.out.below hb6)
                    | (go_simp; go_at_call 17
                       refine (HSm.out _ hb6 _ _ _ _ _ tB tC).mono ?_; rintro e w7 ⟨rfl, hb7'⟩
                       have hb7 : Below wr.heap.size wr w7 := hb6.trans (hb7'.mono hb6.size)))
                  all_goals
                    go_wp2_with fail
                    go_meet
                    case rel => exact ⟨rfl, hb7⟩
                case rest =>
                  obtain ⟨rfl, hbc⟩ := hcut
                  have HBc := Lib.hid (HBk.out.trans (hbc.mono HBk.out.size))
                  clear hbc p0 p1 p2 p3 hzw HNd HSm HXk
                  go_wp2_with fail
                  go_roundw
                  case rel => exact ⟨k + 1, by omega, by go_num, HBc⟩
                  case measure => simp [RowKit.intOf]; omega
              · have hkk : k = i := by omega
                subst hkk
                obtain ⟨hO6, hk6, hb6⟩ := HO5.out.below HC.out HBk.out
                have HW6 := Lib.hid (HW5.out.keep (K' := fun g => (K4 g ∨ g = X) ∨ (W5.heap.size ≤ g ∧ g < wr.heap.size)) (fun g h => .inl h) hk6)
                have hr6 : RowI wr (fun g => ((K4 g ∨ g = X) ∨ (W5.heap.size ≤ g ∧ g < wr.heap.size)) ∧ ¬ (Value.slice VA k vc).ownBlock = some g) A4 N.refs ∧ RowI wr (fun g => ((K4 g ∨ g = X) ∨ (W5.heap.size ≤ g ∧ g < wr.heap.size)) ∧ ¬ (Value.slice VA k vc).ownBlock = some g) D4 N.nums := ⟨(HR5.out.1.below HBk.out).mono fun g hg _ => ⟨.inl hg.1, hg.2⟩, (HR5.out.2.below HBk.out).mono fun g hg _ => ⟨.inl hg.1, hg.2⟩⟩
                obtain ⟨hzw, p0, p1, p2, p3⟩ := HX5.out.below HBk.out
                have hsz6 : w3.heap.size ≤ wr.heap.size := Nat.le_trans HS5.out (by have := HX5.out.1; have := HBk.out.size; omega)
                have HS6 := Lib.hid hsz6
                have hB06 := hO6.base
                have HB6 := Lib.hid (HB5.out.trans hb6)
                have HO6 := Lib.hid hO6
                have HR6 := Lib.hid hr6
                have hkl6 : k < 255 := by omega
                obtain ⟨hi0, hz0, hz1, hz2⟩ := HI0.out
                have HKl := Lib.hid (And.intro hkl6 hB06)
                clear hO6 hk6 hb6 hr6 hB06 HO5 HW5 HR5 HX5 HB5 HS5 HBk
                go_wp2_with (at_builtin; refine of_stop ?_)
                refine stop_of ?_
                refine wpList_append_rows (f := ndW) (n := 4) (E := 40) (nb := 72) (X := L) (base := w3.heap.size) rfl _ _ rfl rfl (OwnR.below HW6.out.own ((Below.refl _ _).alloc (Nat.le_refl _) _)) (L2 := [(⟨N, A4, k4, D4, d4⟩ : NdM)]) rfl (one_row wr (⟨N, A4, k4, D4, d4⟩ : NdM)) (by simp) (N := k + 1) (by rw [HLl.out]; rfl) (Z := L ++ [(⟨N, A4, k4, D4, d4⟩ : NdM)]) rfl Tryd.underlying32 hi0 hz0 hz1 hz2 rfl (by decide) (by decide) (fun _ => rfl) ndW_one (by have := HKl.out.1; omega) (by simp; have := HS6.out; omega) ?_
                intro g2 c2 w2 ho2 hg2 hat2 hl2
                obtain ⟨hW7, hch, hsz7⟩ := HW6.out.push HR6.out ho2 hg2 hat2 hl2 (fun k hk => HO6.out.lt hk)
                have hb7 : Below w0.heap.size wr w2 := ((Below.refl w0.heap.size wr).alloc HKl.out.2 _).grown hg2 (by simp; have := HKl.out.2; omega) (fun k hk => Nat.le_trans HS0.out (HW6.out.lt k hk).1)
                have HO7 := Lib.hid (One.chg HC.out HO6.out hch hb7)
                have HW7 := Lib.hid hW7
                have HB7 := Lib.hid (HB6.out.trans hb7)
                have HS7 := Lib.hid (Nat.le_trans HS6.out hb7.size)
                have HM7 : Hid ((L ++ [(⟨N, A4, k4, D4, d4⟩ : NdM)]).map NdM.n = (LV.take (k + 1)).map (getN s)) := Lib.hid (by rw [List.map_append, HM.out, List.take_add_one, Hx.out, List.map_append]; simp [HNe.out])
                clear ho2 hg2 hat2 hl2 hW7 hch hsz7 hb7 HO6 HW6 HB6 HS6 HR6
                go_wp2_with fail
                go_roundw
                case rel => exact ⟨k + 1, _, _, by omega, by go_num, HO7, Lib.hid (fun g hg => .inl (.inl (HK5.out g hg))), HW7, HM7, HS7, HB7⟩
                case measure => simp [RowKit.intOf]; omega
          · have hii : i = LV.length := by omega
            subst hii
            have hM := HM.out
            rw [List.take_length] at hM
            have HM2 := Lib.hid hM
            obtain ⟨VA, vc, hv, hvc⟩ := HW.out.shape
            rw [HLl.out] at hv hvc
            subst hv
            have HBw := Lib.hid (HB0.out.trans (HB.out.mono hsz))
            clear hM HM HAp hlt hi
            generalize wr = w5 at *
            have HKw := Lib.hid (fun w' (hb : Below w5.heap.size w5 w') => HKs.out.kept (Kept.of_below (HBw.out.trans (hb.mono HBw.out.size))))
            have HLi := Lib.hid (fun w' (hb : Below w5.heap.size w5 w') => HW.out.ints.below hb)
            go_wp2_with fail
            go_loopw [23, 24] (fun v vi wr3 => ∃ (i : Nat) (R : List Int), i ≤ ks.length ∧ vi = .int .i64 (i : Int) ∧ Hid (R.length = i) ∧ Hid (∀ r ∈ R, r ∈ LV) ∧ Hid (OwnR 3 1 inW w5.heap.size wr3 v R) ∧ Hid (Below w5.heap.size w5 wr3)) (fun _ vi _ => ks.length - (RowKit.intOf vi).toNat)
            case atStart => exact ⟨0, [], Nat.zero_le _, rfl, Lib.hid rfl, Lib.hid (fun r hr => by cases hr), Lib.hid (World.ownsRow_nil _ _ _ _), Lib.hid (Below.refl _ _)⟩
            case round =>
              obtain ⟨i, R, hi, rfl, HRl, HRm, HRo, HBr⟩ := hrel
              go_upto_region 38 with fail
              go_cut [192] from 184 to 192 (fun s192 wx => s192 = .bool (decide (i < ks.length ∧ 0 < LV.length)) ∧ wx = wr)
              case first =>
                by_cases hlt : i < ks.length
                · have hltI : decide ((i : Int) < (ks.length : Int)) = true := decide_eq_true (by omega)
                  by_cases hz : LV.length = 0
                  · have hzI : decide ((0 : Int) < (LV.length : Int)) = false := decide_eq_false (by omega)
                    go_wp2_with fail
                    go_meet
                    case rel => exact ⟨by rw [decide_eq_false (show ¬ (i < ks.length ∧ 0 < LV.length) by omega)], rfl⟩
                  · have hzI : decide ((0 : Int) < (LV.length : Int)) = true := decide_eq_true (by omega)
                    go_wp2_with fail
                    go_meet
                    case rel => exact ⟨by rw [decide_eq_true (show i < ks.length ∧ 0 < LV.length by omega), decide_eq_true (show 0 < LV.length by omega)], rfl⟩
                · have hltI : decide ((i : Int) < (ks.length : Int)) = false := decide_eq_false (by omega)
                  go_wp2_with fail
                  go_meet
                  case rel => exact ⟨by rw [decide_eq_false (show ¬ (i < ks.length ∧ 0 < LV.length) by omega)], rfl⟩
              case rest =>
                obtain ⟨rfl, rfl⟩ := hcut
                by_cases hgo : i < ks.length ∧ 0 < LV.length
                · rw [decide_eq_true hgo]
                  obtain ⟨hlt, hz⟩ := hgo
                  obtain ⟨kb, hkb⟩ : ∃ kb, ks[i]? = some kb := ⟨_, List.getElem?_eq_getElem hlt⟩
                  obtain ⟨hb0, hb1⟩ := HKb.out kb (List.mem_of_getElem? hkb)
                  obtain ⟨kn, rfl⟩ : ∃ n : Nat, kb = (n : Int) := ⟨kb.toNat, by omega⟩
                  obtain ⟨gk, ok, rfl, _, _, hck⟩ := (HKw.out _ HBr.out).at hlt
                  have e0 := hck i _ hkb
                  have hmlt : kn % LV.length < LV.length := Nat.mod_lt _ (by omega)
                  obtain ⟨y, hy⟩ : ∃ y, LV[kn % LV.length]? = some y := ⟨_, List.getElem?_eq_getElem hmlt⟩
                  obtain ⟨g3, o3, rfl, _, _, hc3⟩ := (HLi.out _ HBr.out).at hmlt
                  have e1 := hc3 _ _ hy
                  have hmod : (kn : Int).tmod (LV.length : Int) = ((kn % LV.length : Nat) : Int) := by rw [Int.tmod_eq_emod_of_nonneg (by omega)]; rfl
                  have hzB : ((LV.length : Int) == 0) = false := beq_eq_false_iff_ne.2 (by omega)
                  have hkw : IntKind.i64.wrap (kn : Int) = (kn : Int) := by rw [IntKind.wrap_i64]; omega
                  have hmI : ((kn % LV.length : Nat) : Int) < (LV.length : Int) := by omega
                  have Hy : Hid (y ∈ LV) := Lib.hid (List.mem_of_getElem? hy)
                  have hltI : (i : Int) < (ks.length : Int) := by omega
                  generalize kn % LV.length = mm at *
                  obtain ⟨ii0, ji0, jz0, jz1, jz2⟩ := info_parts int_info
                  clear hck hc3 hy hkb
                  go_wp2_with (at_builtin; refine of_stop ?_)
                  refine stop_of ?_
                  refine wpList_append_rows (f := inW) (n := 1) (E := 3) (nb := 8) (X := R) (base := w5.heap.size) rfl _ _ rfl rfl (OwnR.below HRo.out ((Below.refl _ _).alloc (Nat.le_refl _) _)) (L2 := [y]) rfl (one_row wc y) (by simp) (N := i + 1) (by rw [HRl.out]; rfl) (Z := R ++ [y]) rfl Tryd.underlying33 ji0 jz0 jz1 jz2 rfl (by decide) (by decide) (fun _ => rfl) inW_one (by omega) (by simp; have := HBr.out.size; omega) ?_
                  intro g2 k2 w2 ho2 hg2 hat2 hl2
                  have hb2 : Below w5.heap.size w5 w2 := (HBr.out.alloc HBr.out.size _).grown hg2 (by simp; have := HBr.out.size; omega) (fun k hk => (World.ownsRow.lt HRo.out k hk).1)
                  have HO2 := Lib.hid ho2
                  clear ho2 hg2 hat2 hl2 e0 e1
                  go_wp2_with fail
                  go_roundw
                  case rel => exact ⟨i + 1, R ++ [y], by omega, by go_num, Lib.hid (by rw [List.length_append, HRl.out]; rfl), Lib.hid (fun r hr => (List.mem_append.1 hr).elim (HRm.out r) fun e => by rw [List.mem_singleton.1 e]; exact Hy.out), HO2, Lib.hid hb2⟩
                  case measure => simp [RowKit.intOf]; omega
                · rw [decide_eq_false hgo]
                  have hRl : R.length ≤ 200 := by have := HRl.out; omega
                  obtain ⟨RA, rc, rfl, hR0⟩ := own_rowI HRo.out
                  obtain ⟨hO6, hk6, hb6⟩ := HO.out.below HC.out HBr.out
                  have St6 : Hid (Stay AP w0 wc a room s (fun g => K g ∨ (w5.heap.size ≤ g ∧ g < wc.heap.size)) w3.heap.size (.slice VA LV.length vc) O LV L RA R) := Lib.hid ⟨hO6, HW.out.keep (fun g h => .inl h) hk6, hR0.mono fun g hg hl => .inr ⟨hg, hl⟩, fun g hg => .inl (HK.out g hg), HB.out.trans hb6⟩
                  have hRv : ∀ r ∈ R, live s r = true := fun r hr => by have := HRm.out r hr; rw [← HLe.out] at this; exact liveA_mem.1 this
                  have hR64 : B64s R := fun r hr => HO.out.ints (hRv r hr) (by omega)
                  have HR64 := Lib.hid hR64
                  have HBd : Hid (∀ i x, LV[i]? = some x → -9223372036854775808 ≤ x ∧ x ≤ 9223372036854775807) := Lib.hid fun i x hx => HO.out.ints (HLv.out i x hx) (by omega)
                  have HRe := Lib.hid (oReach HC.out St6.out.one R RA rc St6.out.roots (by omega) hR64)
                  have hsw := sweep_live hRv
                  have hle := left_len s R
                  rw [HLe.out] at hsw hle
                  have hag := sweep_again HInv.out hRv
                  have hll := live_left s R
                  have hgl : ∀ x, getE (leftA s R) x = 0 → getN (leftA s R) x = getN s x := fun x h => getN_left h
                  generalize reachA s R = WV at *
                  generalize leftA s R = t at *
                  have Hsw := Lib.hid hsw
                  have Hag := Lib.hid hag
                  have Hll := Lib.hid hll
                  have Hgl := Lib.hid hgl
                  have hWl : WV.length ≤ 255 := by omega
                  clear hsw hag hll hgl hO6 hk6 hb6 hR0 hRv hR64 HKw HLi HW HO HK HB HRl HRm HRo HBr hgo hi
                  go_wp2_with fail
                  refine HRe.out.mono ?_; rintro e w6 ⟨O2, co2, K2, rfl, rW, hO2, hK2, hk2, hb2⟩
                  have St7 := Lib.hid (St6.out.op hO2 hK2 hk2 hb2)
                  have HrW := Lib.hid rW
                  have HS7 := Lib.hid (oSweep HC.out hO2 R RA rc St7.out.roots (by omega) HR64.out Hsw.out)
                  clear rW hO2 hK2 hk2 hb2 HRe St6
                  go_wp2_with fail
                  refine HS7.out.mono ?_; rintro e w7 ⟨K7, rfl, hO2, hK2, hk2, hb2⟩
                  have St8 := Lib.hid (St7.out.op hO2 hK2 hk2 hb2)
                  have HrW7 := Lib.hid (HrW.out.wide' hk2 hK2)
                  have HL7 := Lib.hid (oLive HC.out hO2)
                  rw [Hll.out] at HL7
                  clear hO2 hK2 hk2 hb2 HS7 St7 HrW
                  go_wp2_with fail
                  refine HL7.out.mono ?_; rintro e w8 ⟨O8, co8, K8, rfl, rL, hO2, hK2, hk2, hb2⟩
                  have St9 := Lib.hid (St8.out.op hO2 hK2 hk2 hb2)
                  have HI8 := Lib.hid (rInts_any WV WV O8 O2 co8 co2 w8 _ _ rL (HrW7.out.wide' hk2 hK2) (by unfold maxLen; omega))
                  rw [decide_eq_true (rfl : WV = WV)] at HI8
                  clear hO2 hK2 hk2 hb2 HL7 St8 HrW7 rL
                  go_wp2_with fail
                  refine HI8.out.mono ?_; rintro e w9 ⟨rfl, hb9⟩
                  have St10 := Lib.hid (St9.out.below HC.out hb9)
                  have HS9 := Lib.hid (oSweep HC.out St10.out.one R RA rc St10.out.roots (by omega) HR64.out Hag.out)
                  clear hb9 HI8 St9
                  go_wp2_with fail
                  refine HS9.out.mono ?_; rintro e w10 ⟨K10, rfl, hO2, hK2, hk2, hb2⟩
                  have St11 := Lib.hid (St10.out.op hO2 hK2 hk2 hb2)
                  have HL10 := Lib.hid (oLen HC.out hO2)
                  rw [Hll.out] at HL10
                  have hIt := hO2.inv.len
                  have hWr : WV.length ≤ room := by have h1 := liveF_len t 1; have h2 : liveF 1 t = WV := Hll.out; rw [h2] at h1; omega
                  have hne : (((LV.length - WV.length : Nat) : Int) != (LV.length : Int) - (WV.length : Int)) = false := by
                    have : ((LV.length - WV.length : Nat) : Int) = (LV.length : Int) - (WV.length : Int) := by omega
                    rw [this]; simp
                  have hlw : IntKind.i64.wrap ((LV.length : Int) - (WV.length : Int)) = (LV.length : Int) - (WV.length : Int) := by rw [IntKind.wrap_i64]; omega
                  have hwr : IntKind.i64.wrap (room : Int) = (room : Int) := by rw [IntKind.wrap_i64]; omega
                  have hrI : decide ((room : Int) < (WV.length : Int)) = false := decide_eq_false (by omega)
                  have hrN : decide (room < WV.length) = false := decide_eq_false (by omega)
                  clear hO2 hK2 hk2 hb2 HS9 St10 hIt hle
                  go_wp2_with fail
                  refine HL10.out.mono ?_; rintro e w11 ⟨K11, rfl, hO2, hK2, hk2, hb2⟩
                  have St12 := Lib.hid (St11.out.op hO2 hK2 hk2 hb2)
                  clear hO2 hK2 hk2 hb2 HL10 St11
                  go_wp2_with fail
                  go_loopw [31, 32, 33, 34] (fun vi _ _ _ wr => ∃ (i : Nat) (K : Nat → Prop), i ≤ LV.length ∧ vi = .int .i64 (i : Int) ∧ Hid (Stay AP w0 wr a room t K w3.heap.size (.slice VA LV.length vc) O LV L RA R)) (fun vi _ _ _ _ => LV.length - (RowKit.intOf vi).toNat)
                  case atStart => exact ⟨0, _, Nat.zero_le _, rfl, St12⟩
                  case round =>
                    obtain ⟨i, K, hi, rfl, St⟩ := hrel
                    by_cases hlt : i < LV.length
                    · obtain ⟨x, hx⟩ : ∃ x, LV[i]? = some x := ⟨_, List.getElem?_eq_getElem hlt⟩
                      obtain ⟨g3, o3, hOe, _, _, hc3⟩ := St.out.was.ints.at hlt
                      have e0 := hc3 i x hx
                      have HG := Lib.hid (oGet2 HC.out St.out.one x (HBd.out i x hx))
                      have hfN := St.out.one.fits' HC.out x
                      have hgx := Hgl.out x
                      have hqL : L.length = LV.length := by have := congrArg List.length HM2.out; rwa [List.length_map, List.length_map] at this
                      obtain ⟨q, hq⟩ : ∃ q, L[i]? = some q := ⟨_, List.getElem?_eq_getElem (by omega)⟩
                      have hqn : q.n = getN s x := by
                        have := congrArg (fun t => t[i]?) HM2.out
                        simp only [List.getElem?_map] at this
                        rw [hq, hx] at this
                        simpa using this
                      rw [← hqn] at hgx
                      generalize hbb : decide (getN t x = q.n) = bb
                      have HCB : Hid (getE t x = 0 → bb = true) := Lib.hid fun h => by rw [← hbb]; exact decide_eq_true (hgx h)
                      generalize getE t x = c at *
                      generalize getN t x = N at *
                      have HFN : Hid (N.refs.length ≤ maxLen ∧ N.nums.length ≤ maxLen) := Lib.hid (by unfold maxLen; omega)
                      have Hbb := Lib.hid hbb
                      have HQ := Lib.hid hq
                      have HqL := Lib.hid hqL
                      unfold ndV at HG
                      subst hOe
                      have hiI : (i : Int) < (LV.length : Int) := by omega
                      clear hx hc3 hfN hgx hqn hbb hq hqL
                      go_wp2_with fail
                      refine HG.out.mono ?_; rintro e w4 ⟨A4, k4, D4, d4, K4, rfl, r1, r2, hO4, hK4, hk4, hb4⟩
                      have HX5 := Lib.hid (C4.new w4 N A4 k4 D4 d4)
                      have a1 := One.al' HC.out hO4 (.cells #[.int .i64 N.kind, .slice A4 N.refs.length k4, .slice D4 N.nums.length d4, .string ⟨N.text.toArray⟩] 40)
                      have St5 := Lib.hid ((St.out.op hO4 hK4 hk4 hb4).op a1.1 a1.2.2.2 a1.2.1 a1.2.2.1)
                      have HR5 : Hid (RowI (w4.alloc (.cells #[.int .i64 N.kind, .slice A4 N.refs.length k4, .slice D4 N.nums.length d4, .string ⟨N.text.toArray⟩] 40)) (fun _ => True) A4 N.refs ∧ RowI (w4.alloc (.cells #[.int .i64 N.kind, .slice A4 N.refs.length k4, .slice D4 N.nums.length d4, .string ⟨N.text.toArray⟩] 40)) (fun _ => True) D4 N.nums) := Lib.hid ⟨(r1.below ((Below.refl _ _).alloc (Nat.le_refl _) _)).mono fun g hg _ => trivial, (r2.below ((Below.refl _ _).alloc (Nat.le_refl _) _)).mono fun g hg _ => trivial⟩
                      clear r1 r2 hO4 hK4 hk4 hb4 a1 HG e0 St
                      go_wp2_with fail
                      generalize w4.alloc (.cells #[.int .i64 N.kind, .slice A4 N.refs.length k4, .slice D4 N.nums.length d4, .string ⟨N.text.toArray⟩] 40) = W5 at *
                      generalize w4.heap.size = X at *
                      obtain ⟨g6, o6, c6, hv6, _, hrow5⟩ := St5.out.was.at HQ.out
                      rw [HqL.out] at hv6
                      cases hv6
                      have HNd := Lib.hid (fun w' (hb : Below W5.heap.size W5 w') => (show Calls Tryd.prog 21 #[.slice (some ⟨g6, o6 + i * 4, none⟩) 1 (vc - i)] w' (fun e w'' => ∃ O co, e = .returned (.slice O 1 co) ∧ RowN w'' (fun g => True ∨ w'.heap.size ≤ g) O [q.n] ∧ Below w'.heap.size w' w'') from lnodes_any [q.n] (some ⟨g6, o6 + i * 4, none⟩) (vc - i) w' (hrow5.below hb) (by simp)))
                      have HSm := Lib.hid (fun w' (hb : Below W5.heap.size W5 w') B7 b7 C7 c7 G (tB : RowI w' G B7 q.n.refs) (tC : RowI w' G C7 q.n.nums) => lndsame_any N q.n A4 D4 B7 C7 k4 d4 b7 c7 w' _ _ (HR5.out.1.below hb) (HR5.out.2.below hb) tB tC HFN.out.1 HFN.out.2)
                      rw [Hbb.out] at HSm
                      unfold ndV at HSm
                      obtain ⟨hzw, p0, p1, p2, p3⟩ := HX5.out
                      have hk1 : IntKind.i64.wrap ((i : Int) + 1) = (i : Int) + 1 := by rw [IntKind.wrap_i64]; omega
                      have hkv : (i : Int) + 1 ≤ (vc : Int) := by omega
                      have hkvN : i + 1 ≤ vc := by omega
                      have hkvL : i < vc := by omega
                      have hkvI : (i : Int) < (vc : Int) := by omega
                      have hkvZ : ¬ (vc - i = 0) := by omega
                      have hkvE : ¬ (vc = i) := by omega
                      have hk0 : (0 : Int) ≤ (i : Int) := by omega
                      have hkk : (i : Int) ≤ (i : Int) + 1 := by omega
                      clear hrow5
                      go_wp2_with fail
                      go_cut [34] from 273 to 282 (fun s34 wx => CmpR bb W5 s34 wx)
                      case first =>
                        go_region_law (first
                          | (go_simp; go_at_call 21
                             refine (HNd.out _ (by with_reducible repeat' (first | exact Below.refl _ _ | refine Below.drew ?_))).mono ?_; rintro e w6 ⟨O2, co2, rfl, rN, hb6'⟩
                             have hb6 : Below W5.heap.size W5 w6 := by first | exact hb6' | exact (Below.drew (Below.refl W5.heap.size W5)).trans hb6'
                             obtain ⟨g7, o7, rfl, _, _, hat7⟩ := rN.at (i := 0) (by simp)
                             obtain ⟨B7, b7, C7, c7, ⟨t0, t1, t2, t3⟩, tB, tC⟩ := hat7 0 q.n rfl
                             rw [Nat.zero_mul, Nat.add_zero] at t0 t1 t2 t3
                             obtain ⟨_, q0, q1, q2, q3⟩ := HX5.out.below hb6)
                          | (go_simp; go_at_call 17
                             refine (HSm.out _ hb6 _ _ _ _ _ tB tC).mono ?_; rintro e w7 ⟨rfl, hb7'⟩
                             have hb7 : Below W5.heap.size W5 w7 := hb6.trans (hb7'.mono hb6.size)))
                        all_goals
                          go_wp2_with fail
                          go_meet
                          case rel => exact ⟨rfl, hb7⟩
                      case rest =>
                        obtain ⟨rfl, hbc⟩ := hcut
                        have St6 := Lib.hid (St5.out.below HC.out hbc)
                        clear hbc p0 p1 p2 p3 hzw HNd HSm St5
                        by_cases hc0 : c = 0
                        · subst hc0
                          obtain rfl := HCB.out rfl
                          go_wp2_with fail
                          go_roundw
                          case rel => exact ⟨i + 1, _, by omega, by go_num, St6⟩
                          case measure => simp [RowKit.intOf]; omega
                        · have hcB : (c == 0) = false := beq_eq_false_iff_ne.2 hc0
                          go_wp2_with fail
                          go_roundw
                          case rel => exact ⟨i + 1, _, by omega, by go_num, St6⟩
                          case measure => simp [RowKit.intOf]; omega
                    · have hii : i = LV.length := by omega
                      subst hii
                      have HBe := Lib.hid (HB0.out.trans (St.out.under.mono hsz))
                      go_wp2_with fail
                      refine (HAl.out _ HBe.out).mono ?_; rintro e w12 ⟨rfl, hb2⟩
                      have HBf := Lib.hid (HBe.out.trans (hb2.mono HBe.out.size))
                      clear hb2
                      go_wp2_with fail
                      go_ret
                      exact ⟨rfl, HBf.out⟩
end
end Go.Proofs.YtbjbbpbagnlkmaaDoor
