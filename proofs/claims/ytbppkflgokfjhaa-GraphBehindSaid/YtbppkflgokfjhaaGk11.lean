/- Texts joined: GrL, GrM, GrN. -/
import Derived.Test.YtbppkflgokfjhaaGk10
import Derived.Test.YtbppkflgokfjhaaGk01
set_option linter.all false
namespace Go.Proofs.Ytbppkflgokfjhaa
open Go.RowKit
structure BehG (L : List Lk) (N : Nat) (on : Int) : Prop where
  nl : (nodesG L N).length = L.length
  oc : (ordG L N).length + (cycG L N).length = L.length
  node : ∀ x ∈ L, x.at_ ∈ nodesG L N
  part : ∀ x ∈ L, x.at_ ∈ ordG L N ↔ x.at_ ∉ cycG L N
  self : ∀ x ∈ L, x.at_ ∈ cycG L N ↔ x.at_ ∈ hangG L [x.at_] N
  behind : ∀ x ∈ L, x.at_ ∈ ordG L N → ∀ r ∈ x.rd, idxI (ordG L N) r < idxI (ordG L N) x.at_
  trans : ∀ m ∈ hangG L [on] N, ∀ n ∈ hangG L [m] N, n ∈ hangG L [on] N
  hnode : ∀ m ∈ hangG L [on] N, m ∈ nodesG L N
  rise : (hangG L [on] N).Pairwise (· < ·)
  direct : ∀ x ∈ L, on ∈ x.rd → x.at_ ∈ hangG L [on] N
theorem behG_of {L : List Lk} (hk : OkK L) (hd : DisL L) {N : Nat} (hN : N = 1024) (on : Int) : BehG L N on := by
  have hall : ∀ n, n ∈ ordG L N ↔ isN L n ∧ ¬ cycN L n := fun n => ordG_all hk hN
  have hoc := ord_cyc_len hk hd hN
  subst hN
  have hx : ∀ x ∈ L, isN L x.at_ := fun x hx => ⟨x, hx, rfl⟩
  refine ⟨nodes_len hk hd, hoc, fun x hxx => (nodesG_mem hk).2 (hx x hxx), fun x hxx => ?_, fun x hxx => ?_, fun x hxx ho r hr => ?_, fun m hm n hn => ?_, fun m hm => ?_, upto_rise _ _, fun x hxx hr => ?_⟩
  · rw [hall, cycG_mem hk]
    exact ⟨fun h => h.2, fun h => ⟨hx x hxx, h⟩⟩
  · rw [cycG_mem hk, hangG_mem hk]; rfl
  · rw [idxI_yes ho]
    by_cases hro : r ∈ ordG L 1024
    · rw [idxI_yes hro]
      obtain ⟨h1, h2⟩ := (hall r).1 hro
      have hlt := List.idxOf_lt_length_of_mem ho
      have hget : (ordG L 1024)[(ordG L 1024).idxOf x.at_]? = some x.at_ := by
        rw [List.getElem?_eq_getElem hlt, List.getElem_idxOf]
      have := (ordG_told L 1024).behind _ _ hget x hxx rfl r hr h1 h2
      have := idx_take this
      omega
    · rw [idxI_no hro]; omega
  · rw [hangG_mem hk] at hm hn ⊢
    exact hng_trans hn hm
  · rw [hangG_mem hk] at hm
    exact (nodesG_mem hk).2 (hng_node hm)
  · rw [hangG_mem hk]
    exact .now x hxx on hr (List.mem_singleton.2 rfl)
set_option maxHeartbeats 40000000 in
set_option maxRecDepth 10000 in
theorem graphbehind_any {N : Nat} {EV : World → Prop} {GP : World → Nat → List Lk → Prop} (hG : GD N EV GP) (hN : N = 1024) (hAl : AliveG EV) (w : World) (hE : EV w) (l : List LkM) (A : Option Addr) (ca : Nat) (n : Int) (hn : 0 ≤ n ∧ n ≤ 65535) {P : Nat → Prop} (hl : RowL w P A l) (hll : l.length ≤ maxLen) (hrl : ∀ q ∈ l, q.rd.length ≤ maxLen) :
    Calls Try.prog 4 #[.slice A l.length ca, .int .u16 n] w fun e w' => e = .returned (.bool true) ∧ Below w.heap.size w w' := by
  have HG := Lib.hid hG
  have HN := Lib.hid hN
  have HEv := Lib.hid (fun (w1 : World) (hb : Below w.heap.size w w1) => hG.up hE hb)
  have HA := Lib.hid (fun (w1 : World) (hb : Below w.heap.size w w1) => hAl w1 (hG.up hE hb))
  have HL := Lib.hid (fun (w1 : World) (hb : Below w.heap.size w w1) => hl.below hb)
  have HF := Lib.hid (gfits_any l A ca w hl hll hrl)
  have hn0 := hn.1
  have hn1 := hn.2
  clear hG hN hAl hE hl hll hrl hn
  unfold FitsG at HF
  go_enter Try.func4, Try.ntmps4
  go_wp2_with fail
  refine HF.out.mono ?_; rintro e w1 ⟨b1, rfl, hf1, hw1⟩
  have hw1' := hw1.symm
  subst hw1'
  have HF1 := Lib.hid hf1
  clear hf1 hw1 HF
  cases b1 with
  | false =>
    go_wp2_with fail
    refine (HA.out _ (Below.refl _ _)).mono ?_; rintro e w1 ⟨rfl, hb1⟩
    go_wp2_with fail
    go_ret
    exact ⟨rfl, hb1⟩
  | true =>
  have hl60 : l.length ≤ 60 := (HF1.out rfl).1
  have hr60 : ∀ q ∈ l, q.rd.length ≤ 60 := (HF1.out rfl).2
  have HR60 := Lib.hid hr60
  have HNw := Lib.hid (HG.out.new w l A ca _ (HEv.out w (Below.refl _ _)) (HL.out w (Below.refl _ _)) hl60 hr60)
  clear HF1 hr60
  go_wp2_with fail
  refine HNw.out.mono ?_; rintro e w1 ⟨hb1, hcase⟩
  have HB1 := Lib.hid hb1
  clear hb1 HNw
  rcases hcase with ⟨hmay, g, rfl, hgp⟩ | ⟨hmay, rfl⟩
  · obtain ⟨hk, hd⟩ := may_zero hmay
    have HK := Lib.hid hk
    have HD := Lib.hid hd
    have HP := Lib.hid hgp
    have hLl : (lkS l).length = l.length := List.length_map _
    have HLl := Lib.hid (show (lkS l).length ≤ 60 by omega)
    obtain ⟨on, hon⟩ : ∃ on : Int, n % 1024 = on := ⟨_, rfl⟩
    have HOn := Lib.hid hon
    have hon0 : 0 ≤ on := by omega
    have hon1 : on ≤ 1023 := by omega
    have HBh := Lib.hid (behG_of hk hd HN.out on)
    have HKm := Lib.hid (fun (q : LkM) (hq : q ∈ l) => (show q.k ∈ lkS l from List.mem_map.2 ⟨q, hq, rfl⟩))
    have HO1 := Lib.hid (HG.out.order w1 g (lkS l) (HEv.out w1 HB1.out) hgp hk hd HLl.out)
    have HC1 := Lib.hid (fun (W : World) (hb : Below w1.heap.size w1 W) => HG.out.cyclic W g (lkS l) (HEv.out W (HB1.out.trans (hb.mono HB1.out.size))) (HG.out.below HP.out hb) HK.out HD.out HLl.out)
    have HN1 := Lib.hid (fun (W : World) (hb : Below w1.heap.size w1 W) => HG.out.nodes W g (lkS l) (HEv.out W (HB1.out.trans (hb.mono HB1.out.size))) (HG.out.below HP.out hb) HK.out HD.out HLl.out)
    have HH1 := Lib.hid (fun (W : World) (hb : Below w1.heap.size w1 W) (m : Int) (hm : -9223372036854775808 ≤ m ∧ m ≤ 9223372036854775807) => HG.out.hang (W.alloc (.cells #[.int .i64 m] 3)) g (lkS l) [m] (some ⟨W.heap.size, 0, none⟩) 1 (fun _ => True) (HEv.out _ (HB1.out.trans ((hb.trans (((Below.refl W.heap.size W).alloc (Nat.le_refl _) _).mono hb.size)).mono HB1.out.size))) (HG.out.below HP.out (hb.trans (((Below.refl W.heap.size W).alloc (Nat.le_refl _) _).mono hb.size))) HK.out HD.out HLl.out (rowI_lit (heap_alloc_new W (.cells #[.int .i64 m] 3)) rfl trivial) (by simp) (fun x hx => by rw [List.mem_singleton.1 hx]; exact hm))
    have hnl := HBh.out.nl
    have hoc := HBh.out.oc
    rw [hLl] at hnl hoc
    have HHl := Lib.hid (fun m => (show (hangG (lkS l) [m] N).length ≤ 1024 by have := upto_len (Hng (lkS l) [m]) N; have := HN.out; unfold hangG; omega))
    have HHb := Lib.hid (fun m x (hx : x ∈ hangG (lkS l) [m] N) => (show -9223372036854775808 ≤ x ∧ x ≤ 9223372036854775807 by have := upto_mem.1 hx; have := HN.out; omega))
    clear hmay hgp hk hd hon hLl
    have hol : (ordG (lkS l) N).length ≤ 60 := by omega
    have hcl : (cycG (lkS l) N).length ≤ 60 := by omega
    have hnl2 : (nodesG (lkS l) N).length ≤ 60 := by omega
    have e1 : (((nodesG (lkS l) N).length : Int) != (l.length : Int)) = false := by rw [hnl]; simp
    have e2 : (((ordG (lkS l) N).length : Int) + ((cycG (lkS l) N).length : Int) != (l.length : Int)) = false := by simp; omega
    have HE12 := Lib.hid (And.intro e1 e2)
    have HL3 := Lib.hid (And.intro hol (And.intro hcl hnl2))
    clear e1 e2 hnl hoc
    unfold GRow at HO1 HC1 HN1 HH1
    go_wp2_with fail
    refine HO1.out.mono ?_; rintro e w2 ⟨OA, oc, rfl, _, ho2, hb2⟩
    have HB2 := Lib.hid hb2
    have HO2 := Lib.hid ho2
    clear ho2 hb2 HO1
    go_wp2_with fail
    refine (HC1.out w2 HB2.out).mono ?_; rintro e w3 ⟨CA, cc, rfl, _, hc3, hb3⟩
    have HB3 := Lib.hid (HB2.out.trans (hb3.mono HB2.out.size))
    have HO3 := Lib.hid (HO2.out.below hb3)
    have HC3 := Lib.hid hc3
    clear hc3 hb3 HC1 HO2 HB2
    go_wp2_with fail
    refine (HN1.out w3 HB3.out).mono ?_; rintro e w4 ⟨NA, nc, rfl, _, hn4, hb4⟩
    have HB4 := Lib.hid (HB3.out.trans (hb4.mono HB3.out.size))
    have HOr := Lib.hid (fun (W : World) (hb : Below w4.heap.size w4 W) x => ghasI_any (ordG (lkS l) N) OA oc W ((HO3.out.below hb4).below hb) (by omega) x)
    have HCr := Lib.hid (fun (W : World) (hb : Below w4.heap.size w4 W) x => ghasI_any (cycG (lkS l) N) CA cc W ((HC3.out.below hb4).below hb) (by omega) x)
    have HNr := Lib.hid (fun (W : World) (hb : Below w4.heap.size w4 W) x => ghasI_any (nodesG (lkS l) N) NA nc W (hn4.below hb) (by omega) x)
    have HW4 := Lib.hid (fun (W : World) (hb : Below w4.heap.size w4 W) => (show Below w1.heap.size w1 W from HB4.out.trans (hb.mono HB4.out.size)))
    have HV4 := Lib.hid (fun (W : World) (hb : Below w4.heap.size w4 W) => (show Below w.heap.size w W from HB1.out.trans ((HW4.out W hb).mono HB1.out.size)))
    clear hn4 hb4 HN1 HO3 HC3 HB3
    obtain ⟨e1, e2⟩ := HE12.out
    go_wp2_with fail
    go_loopw [11] (fun vi wr => ∃ i : Nat, i ≤ l.length ∧ vi = .int .i64 (i : Int) ∧ Hid (Below w4.heap.size w4 wr)) (fun vi _ => l.length - (RowKit.intOf vi).toNat)
    case atStart => exact ⟨0, Nat.zero_le _, rfl, Lib.hid (Below.refl _ _)⟩
    case round =>
      clear e1 e2
      obtain ⟨i, hi, rfl, HB⟩ := hrel
      by_cases hlt : i < l.length
      · obtain ⟨q, hq⟩ : ∃ q, l[i]? = some q := ⟨_, List.getElem?_eq_getElem hlt⟩
        obtain ⟨g, o, rfl, _, hgl, hat⟩ := (HL.out w (Below.refl _ _)).at hlt
        obtain ⟨⟨q0, q1⟩, hrq⟩ := hat i q hq
        have HKc := Lib.hid (fun (W : World) (hb : Below w4.heap.size w4 W) => (show W.cell? ⟨g, o + i * 2, none⟩ = some (.int .i64 q.at_) ∧ W.cell? ⟨g, o + i * 2 + 1, none⟩ = some (.slice q.RA q.rd.length q.rc) from ⟨keep_cell (HV4.out W hb) q0, keep_cell (HV4.out W hb) q1⟩))
        have HRq := Lib.hid (fun (W : World) (hb : Below w4.heap.size w4 W) => hrq.below (HV4.out W hb))
        have hqm := List.mem_of_getElem? hq
        have hkm := HKm.out q hqm
        have hoa := (HK.out q.k hkm).1
        have hql := HR60.out q hqm
        obtain ⟨k0, k1⟩ := HKc.out wr HB.out
        have hI : (i : Int) < (l.length : Int) := by omega
        have hJ : (0 : Int) ≤ (i : Int) := by omega
        obtain ⟨an, rd, RA, rc⟩ := q
        obtain ⟨ha0, ha1⟩ : 0 ≤ an ∧ an ≤ 1023 := hoa
        have hpart : an ∈ ordG (lkS l) N ↔ an ∉ cycG (lkS l) N := HBh.out.part _ hkm
        have hself : an ∈ cycG (lkS l) N ↔ an ∈ hangG (lkS l) [an] N := HBh.out.self _ hkm
        have hnode : an ∈ nodesG (lkS l) N := HBh.out.node _ hkm
        have hbeh : an ∈ ordG (lkS l) N → ∀ r ∈ rd, idxI (ordG (lkS l) N) r < idxI (ordG (lkS l) N) an := HBh.out.behind _ hkm
        have d3 : decide (idxI (nodesG (lkS l) N) an < 0) = false := by rw [idxI_neg, decide_eq_true hnode]; rfl
        have d1 : (decide (idxI (ordG (lkS l) N) an < 0) == decide (idxI (cycG (lkS l) N) an < 0)) = false := by
          rw [idxI_neg, idxI_neg]
          by_cases h : an ∈ cycG (lkS l) N
          · rw [decide_eq_true h, decide_eq_false (fun h2 => hpart.1 h2 h)]; rfl
          · rw [decide_eq_false h, decide_eq_true (hpart.2 h)]; rfl
        have d2 : (decide (idxI (cycG (lkS l) N) an < 0) == decide (idxI (hangG (lkS l) [an] N) an < 0)) = true := by
          rw [idxI_neg, idxI_neg]
          by_cases h : an ∈ cycG (lkS l) N
          · rw [decide_eq_true h, decide_eq_true (hself.1 h)]; rfl
          · rw [decide_eq_false h, decide_eq_false (fun h2 => h (hself.2 h2))]; rfl
        have HBr := Lib.hid (fun (h0 : 0 ≤ idxI (ordG (lkS l) N) an) r hr => hbeh (by
          by_cases h : an ∈ ordG (lkS l) N
          · exact h
          · rw [idxI_no h] at h0; omega) r hr)
        have HD3 := Lib.hid (And.intro d1 (And.intro d2 d3))
        clear hpart hself hnode hbeh d1 d2 d3 hkm hqm hq hat hrq q0 q1
        have HC1 := Lib.hid (HOr.out wr HB.out an)
        have HC2 := Lib.hid (HCr.out wr HB.out an)
        have HC3 := Lib.hid (HH1.out wr (HW4.out wr HB.out) an ⟨by omega, by omega⟩)
        unfold GRow at HC3
        have hbs := HB.out.size
        go_wp2_with fail
        refine HC1.out.mono ?_; rintro e w5 ⟨rfl, hw5⟩
        have hw5' := hw5.symm
        subst hw5'
        clear hw5 HC1
        go_wp2_with fail
        refine HC2.out.mono ?_; rintro e w5 ⟨rfl, hw5⟩
        have hw5' := hw5.symm
        subst hw5'
        clear hw5 HC2
        go_wp2_with fail
        refine HC3.out.mono ?_; rintro e w6 ⟨HA_, hc, rfl, _, hh6, hb6⟩
        have HB6 := Lib.hid (HB.out.trans ((((Below.refl wr.heap.size wr).alloc (Nat.le_refl _) (.cells #[.int .i64 an] 3)).trans (hb6.mono (by simp))).mono hbs))
        have HC4 := Lib.hid (ghasI_any (hangG (lkS l) [an] N) HA_ hc w6 hh6 (by have := HHl.out an; omega) an)
        have HC5 := Lib.hid (HNr.out w6 HB6.out an)
        obtain ⟨d1, d2, d3⟩ := HD3.out
        clear hh6 hb6 HC3 k0 k1
        go_wp2_with fail
        refine HC4.out.mono ?_; rintro e w5 ⟨rfl, hw5⟩
        have hw5' := hw5.symm
        subst hw5'
        clear hw5 HC4
        go_wp2_with fail
        refine HC5.out.mono ?_; rintro e w5 ⟨rfl, hw5⟩
        have hw5' := hw5.symm
        subst hw5'
        clear hw5 HC5
        obtain ⟨k0, k1⟩ := HKc.out w6 HB6.out
        go_wp2_with fail
        go_loopw [16] (fun vk wx => ∃ k : Nat, k ≤ rd.length ∧ vk = .int .i64 (k : Int) ∧ wx = w6) (fun vk _ => rd.length - (RowKit.intOf vk).toNat)
        case atStart => exact ⟨0, Nat.zero_le _, rfl, rfl⟩
        case round =>
          obtain ⟨k, hk, rfl, hw⟩ := hrel
          have hw' := hw.symm
          subst hw'
          clear hw d1 d2 d3
          by_cases hkt : k < rd.length
          · have hK : (k : Int) < (rd.length : Int) := by omega
            have hK0 : (0 : Int) ≤ (k : Int) := by omega
            by_cases hp : 0 ≤ idxI (ordG (lkS l) N) an
            · obtain ⟨r, hr⟩ : ∃ r, rd[k]? = some r := ⟨_, List.getElem?_eq_getElem hkt⟩
              obtain ⟨g2, o2, hRA, _, hg2, hat2⟩ := (HRq.out w6 HB6.out).at hkt
              have hRA : RA = some ⟨g2, o2, none⟩ := hRA
              subst hRA
              have r0 := hat2 k r hr
              have hlt2 := HBr.out hp r (List.mem_of_getElem? hr)
              have HC6 := Lib.hid (HOr.out w6 HB6.out r)
              have d4 : decide (idxI (ordG (lkS l) N) an ≤ idxI (ordG (lkS l) N) r) = false := decide_eq_false (by omega)
              clear hr hat2 hlt2
              go_wp2_with fail
              refine HC6.out.mono ?_; rintro e w5 ⟨rfl, hw5⟩
              have hw5' := hw5.symm
              subst hw5'
              clear hw5 HC6
              go_wp2_with fail
              go_roundw
              case rel => exact ⟨k + 1, by omega, by go_num, by first | rfl | trivial⟩
              case measure => simp [RowKit.intOf]; omega
            · go_wp2_with fail
              go_roundw
              case rel => exact ⟨i + 1, by omega, by go_num, HB6⟩
              case measure => simp [RowKit.intOf]; omega
          · have hK : ¬ (k : Int) < (rd.length : Int) := by omega
            go_wp2_with fail
            go_roundw
            case rel => exact ⟨i + 1, by omega, by go_num, HB6⟩
            case measure => simp [RowKit.intOf]; omega
      · have hii : i = l.length := by omega
        subst hii
        have HOh := Lib.hid (HH1.out wr (HW4.out wr HB.out) on ⟨by omega, by omega⟩)
        unfold GRow at HOh
        have hon := HOn.out
        have hbs := HB.out.size
        have t1 : n.tmod 1024 = on := by rw [Int.tmod_eq_emod_of_nonneg hn0]; exact hon
        go_wp2_with fail
        refine HOh.out.mono ?_; rintro e w6 ⟨HA_, hc, rfl, _, hh6, hb6⟩
        have HB6 := Lib.hid (HB.out.trans ((((Below.refl wr.heap.size wr).alloc (Nat.le_refl _) (.cells #[.int .i64 on] 3)).trans (hb6.mono (by simp))).mono hbs))
        have hsl := HHl.out on
        have hsb := HHb.out on
        have htr := HBh.out.trans
        have hhn := HBh.out.hnode
        have hrs := HBh.out.rise
        have hdr := HBh.out.direct
        clear hb6 HOh t1 hon
        generalize hangG (lkS l) [on] N = HS at hh6 hsl hsb htr hhn hrs hdr ⊢
        have HSb := Lib.hid hsb
        have HTr := Lib.hid htr
        have HHn := Lib.hid hhn
        have HRs := Lib.hid hrs
        have HDr := Lib.hid (fun (q : LkM) (hq : q ∈ l) (hr : on ∈ q.rd) => (show q.at_ ∈ HS from hdr _ (HKm.out q hq) hr))
        have HRow := Lib.hid (fun (W : World) (hb : Below w6.heap.size w6 W) => hh6.below hb)
        have HHas := Lib.hid (fun (W : World) (hb : Below w6.heap.size w6 W) x => ghasI_any HS HA_ hc W (hh6.below hb) (by omega) x)
        have HX6 := Lib.hid (fun (W : World) (hb : Below w6.heap.size w6 W) => (show Below w4.heap.size w4 W from HB6.out.trans (hb.mono HB6.out.size)))
        clear hh6 hsb htr hhn hrs hdr
        go_wp2_with fail
        go_loopw [19] (fun vi wx => ∃ i : Nat, i ≤ HS.length ∧ vi = .int .i64 (i : Int) ∧ Hid (Below w6.heap.size w6 wx)) (fun vi _ => HS.length - (RowKit.intOf vi).toNat)
        case atStart => exact ⟨0, Nat.zero_le _, rfl, Lib.hid (Below.refl _ _)⟩
        case round =>
          obtain ⟨j, hj, rfl, HBx⟩ := hrel
          by_cases hlt : j < HS.length
          · obtain ⟨m, hm⟩ : ∃ m, HS[j]? = some m := ⟨_, List.getElem?_eq_getElem hlt⟩
            obtain ⟨g2, o2, rfl, _, hg2, hat⟩ := (HRow.out w6 (Below.refl _ _)).at hlt
            have r0 := hat j m hm
            have hmm := List.mem_of_getElem? hm
            have hI : (j : Int) < (HS.length : Int) := by omega
            have hJ : (0 : Int) ≤ (j : Int) := by omega
            have HMg := Lib.hid (HH1.out wr (HW4.out wr (HX6.out wr HBx.out)) m (HSb.out m hmm))
            unfold GRow at HMg
            have hbx := HBx.out.size
            have HTm := Lib.hid (HTr.out m hmm)
            have hnm := HHn.out m hmm
            have dn : decide (idxI (nodesG (lkS l) N) m < 0) = false := by rw [idxI_neg, decide_eq_true hnm]; rfl
            have HDn := Lib.hid dn
            have HR0 := Lib.hid (fun (W : World) (hb : Below w6.heap.size w6 W) => keep_cell hb r0)
            have HM := Lib.hid hm
            have HAt := Lib.hid hat
            have k0 := HR0.out wr HBx.out
            clear hm hmm hnm dn hat r0
            go_wp2_with fail
            refine HMg.out.mono ?_; rintro e w7 ⟨MA, mc, rfl, _, hm7, hb7⟩
            have HB7 := Lib.hid (HBx.out.trans ((((Below.refl wr.heap.size wr).alloc (Nat.le_refl _) (.cells #[.int .i64 m] 3)).trans (hb7.mono (by simp))).mono hbx))
            have HMr := Lib.hid hm7
            have hml := HHl.out m
            clear hm7 hb7 HMg k0
            generalize hangG (lkS l) [m] N = MS at *
            go_wp2_with fail
            go_loopw [21] (fun vk wy => ∃ k : Nat, k ≤ MS.length ∧ vk = .int .i64 (k : Int) ∧ wy = w7) (fun vk _ => MS.length - (RowKit.intOf vk).toNat)
            case atStart => exact ⟨0, Nat.zero_le _, rfl, rfl⟩
            case round =>
              obtain ⟨k, hk, rfl, hw⟩ := hrel
              have hw' := hw.symm
              subst hw'
              clear hw
              by_cases hkt : k < MS.length
              · obtain ⟨x, hx⟩ : ∃ x, MS[k]? = some x := ⟨_, List.getElem?_eq_getElem hkt⟩
                obtain ⟨g3, o3, rfl, _, hg3, hat3⟩ := HMr.out.at hkt
                have r1 := hat3 k x hx
                have hK : (k : Int) < (MS.length : Int) := by omega
                have hK0 : (0 : Int) ≤ (k : Int) := by omega
                have hxs := HTm.out x (List.mem_of_getElem? hx)
                have HC6 := Lib.hid (HHas.out w7 HB7.out x)
                have d4 : decide (idxI HS x < 0) = false := by rw [idxI_neg, decide_eq_true hxs]; rfl
                clear hx hat3 hxs
                go_wp2_with fail
                refine HC6.out.mono ?_; rintro e w5 ⟨rfl, hw5⟩
                have hw5' := hw5.symm
                subst hw5'
                clear hw5 HC6
                go_wp2_with fail
                go_roundw
                case rel => exact ⟨k + 1, by omega, by go_num, by first | rfl | trivial⟩
                case measure => simp [RowKit.intOf]; omega
              · have hK : ¬ (k : Int) < (MS.length : Int) := by omega
                have k0 := HR0.out w7 HB7.out
                have dn := HDn.out
                have HBQ := Lib.hid (fun n => (show Below w6.heap.size w6 (w7.drewN n) from HB7.out.trans ⟨rfl, rfl, rfl, Nat.le_refl _, fun _ _ => rfl⟩))
                have HBN := Lib.hid (fun n => HX6.out _ (HBQ.out n))
                by_cases h0 : j = 0
                · subst h0
                  have k1 : w7.cell? ⟨g2, o2, none⟩ = some (.int .i64 m) := k0
                  clear k0
                  have j0 : ((0 : Int) < ((0 : Nat) : Int)) = False := by simp
                  go_wp2_with fail
                  go_quiet ((go_at_call 19; exact Calls.quiet_of_same (HNr.out _ (HBN.out _) m)))
                  go_wp2_with fail
                  go_roundw
                  case rel => exact ⟨0 + 1, by omega, by go_num, Lib.hid (HBQ.out nq)⟩
                  case measure => simp [RowKit.intOf]; omega
                · obtain ⟨jj, hjj⟩ : ∃ jj : Nat, j = jj + 1 := ⟨j - 1, by omega⟩
                  obtain ⟨p, hp⟩ : ∃ p, HS[jj]? = some p := ⟨_, List.getElem?_eq_getElem (by omega)⟩
                  have hpm : p < m := by
                    obtain ⟨a1, a2⟩ := List.getElem?_eq_some_iff.1 hp
                    obtain ⟨b1, b2⟩ := List.getElem?_eq_some_iff.1 HM.out
                    rw [← a2, ← b2]
                    exact List.pairwise_iff_getElem.1 HRs.out jj j a1 b1 (by omega)
                  have k2 := keep_cell HB7.out (HAt.out jj p hp)
                  have d5 : decide (m ≤ p) = false := decide_eq_false (by omega)
                  have j2 : (0 : Int) ≤ (jj : Int) := by omega
                  have j3 : (jj : Int) < (HS.length : Int) := by omega
                  have j1 : IntKind.i64.wrap ((j : Int) - 1) = (jj : Int) := by rw [Go.IntWalk.i64_in _ (by omega)]; omega
                  have j5 : (j : Int) - 1 = (jj : Int) := by omega
                  have j0 : (0 : Int) < (j : Int) := by omega
                  have j4 : (0 < j) = True := by simp; omega
                  have HJ := Lib.hid hjj
                  clear hjj hp hpm h0
                  go_wp2_with fail
                  go_quiet ((go_at_call 19; exact Calls.quiet_of_same (HNr.out _ (HBN.out _) m)))
                  clear j1 j5
                  go_wp2_with fail
                  go_roundw
                  case rel => exact ⟨j + 1, by omega, by go_num, Lib.hid (HBQ.out nq)⟩
                  case measure => simp [RowKit.intOf]; omega
          · have hI : ¬ (j : Int) < (HS.length : Int) := by omega
            obtain ⟨w8, rfl⟩ : ∃ w8, w8 = wr := ⟨wr, rfl⟩
            have HB8 := Lib.hid (HX6.out _ HBx.out)
            go_wp2_with fail
            go_loopw [22] (fun vi wx => ∃ i : Nat, i ≤ l.length ∧ vi = .int .i64 (i : Int) ∧ wx = w8) (fun vi _ => l.length - (RowKit.intOf vi).toNat)
            case atStart => exact ⟨0, Nat.zero_le _, rfl, rfl⟩
            case round =>
              obtain ⟨i, hi, rfl, hw⟩ := hrel
              have hw' := hw.symm
              subst hw'
              clear hw
              by_cases hlt : i < l.length
              · obtain ⟨q, hq⟩ : ∃ q, l[i]? = some q := ⟨_, List.getElem?_eq_getElem hlt⟩
                obtain ⟨g2, o2, rfl, _, hg2, hat⟩ := (HL.out w (Below.refl _ _)).at hlt
                obtain ⟨⟨q0, q1⟩, hrq⟩ := hat i q hq
                have hqm := List.mem_of_getElem? hq
                have hql := HR60.out q hqm
                have HDq := Lib.hid (HDr.out q hqm)
                have HBw := Lib.hid (HV4.out w8 HB8.out)
                have k0 := keep_cell HBw.out q0
                have k1 := keep_cell HBw.out q1
                have HC1 := Lib.hid (ghasI_any q.rd q.RA q.rc w8 (hrq.below HBw.out) (by omega) on)
                have hI' : (i : Int) < (l.length : Int) := by omega
                have hJ' : (0 : Int) ≤ (i : Int) := by omega
                obtain ⟨an, rd, RA, rc⟩ := q
                have HDq : Hid (on ∈ rd → an ∈ HS) := HDq
                have HC1 : Hid (Calls Try.prog 19 #[.slice RA rd.length rc, .int .i64 on] w8 fun e w' => e = .returned (.int .i64 (idxI rd on)) ∧ w' = w8) := HC1
                have HC2 := Lib.hid (HHas.out w8 HBx.out an)
                clear hq hat hrq q0 q1 hqm
                by_cases hin : on ∈ rd
                · have d0 : decide (0 ≤ idxI rd on) = true := by rw [idxI_pos, decide_eq_true hin]
                  have d1 : decide (idxI HS an < 0) = false := by rw [idxI_neg, decide_eq_true (HDq.out hin)]; rfl
                  clear hin
                  go_wp2_with fail
                  refine HC1.out.mono ?_; rintro e w5 ⟨rfl, hw5⟩
                  have hw5' := hw5.symm
                  subst hw5'
                  clear hw5 HC1
                  go_wp2_with fail
                  refine HC2.out.mono ?_; rintro e w5 ⟨rfl, hw5⟩
                  have hw5' := hw5.symm
                  subst hw5'
                  clear hw5 HC2
                  go_wp2_with fail
                  go_roundw
                  case rel => exact ⟨i + 1, by omega, by go_num, by first | rfl | trivial⟩
                  case measure => simp [RowKit.intOf]; omega
                · have d0 : decide (0 ≤ idxI rd on) = false := by rw [idxI_pos, decide_eq_false hin]
                  clear hin HC2
                  go_wp2_with fail
                  refine HC1.out.mono ?_; rintro e w5 ⟨rfl, hw5⟩
                  have hw5' := hw5.symm
                  subst hw5'
                  clear hw5 HC1
                  go_wp2_with fail
                  go_roundw
                  case rel => exact ⟨i + 1, by omega, by go_num, by first | rfl | trivial⟩
                  case measure => simp [RowKit.intOf]; omega
              · have hI' : ¬ (i : Int) < (l.length : Int) := by omega
                have HAl := Lib.hid (HA.out w8 (HV4.out w8 HB8.out))
                have HBw := Lib.hid (HV4.out w8 HB8.out)
                go_wp2_with fail
                refine HAl.out.mono ?_; rintro e w9 ⟨rfl, hb9⟩
                have HB9 := Lib.hid (HBw.out.trans (hb9.mono HBw.out.size))
                clear hb9 HAl
                go_wp2_with fail
                go_ret
                exact ⟨rfl, HB9.out⟩
  · have d0 : ((mayC (lkS l) : Int) != 0) = true := by simpa using hmay
    go_wp2_with fail
    refine (HA.out _ HB1.out).mono ?_; rintro e w2 ⟨rfl, hb2⟩
    have HB2 := Lib.hid (HB1.out.trans (hb2.mono HB1.out.size))
    clear hb2
    go_wp2_with fail
    go_ret
    exact ⟨rfl, HB2.out⟩
end Go.Proofs.Ytbppkflgokfjhaa
namespace Go.Proofs.Ytbppkflgokfjhaa
open Go.RowKit
theorem rise_eq : ∀ {a b : List Int}, a.Pairwise (· < ·) → b.Pairwise (· < ·) → (∀ n, n ∈ a ↔ n ∈ b) → a = b
  | [], [], _, _, _ => rfl
  | [], y :: b, _, _, h => by have := (h y).2 (List.mem_cons_self ..); cases this
  | x :: a, [], _, _, h => by have := (h x).1 (List.mem_cons_self ..); cases this
  | x :: a, y :: b, ha, hb, h => by
    obtain ⟨ha1, ha2⟩ := List.pairwise_cons.1 ha
    obtain ⟨hb1, hb2⟩ := List.pairwise_cons.1 hb
    have e : x = y := by
      rcases List.mem_cons.1 ((h x).1 (List.mem_cons_self ..)) with q | q
      · exact q
      · rcases List.mem_cons.1 ((h y).2 (List.mem_cons_self ..)) with p | p
        · exact p.symm
        · have := hb1 x q; have := ha1 y p; omega
    subst e
    rw [rise_eq ha2 hb2 fun n => ?_]
    constructor
    · intro hn
      rcases List.mem_cons.1 ((h n).1 (List.mem_cons_of_mem _ hn)) with q | q
      · have := ha1 n hn; omega
      · exact q
    · intro hn
      rcases List.mem_cons.1 ((h n).2 (List.mem_cons_of_mem _ hn)) with q | q
      · have := hb1 n hn; omega
      · exact q
def gLA : List Lk := [⟨7, [3, 9]⟩, ⟨3, [5]⟩, ⟨5, [3]⟩, ⟨2, [8, 7]⟩, ⟨8, []⟩]
theorem gla_ok : OkK gLA := by unfold OkK gLA okN; decide
theorem gla_dis : DisL gLA := by unfold DisL gLA; decide
theorem gla_is (n : Int) : isN gLA n ↔ n ∈ [7, 3, 5, 2, (8 : Int)] := by
  unfold isN gLA
  simp only [List.mem_cons, List.not_mem_nil, or_false, exists_eq_or_imp, exists_eq_left]
  constructor
  · rintro (h | h | h | h | h) <;> simp [← h]
  · rintro (h | h | h | h | h) <;> simp [h]
theorem gla_hang {on found : List Int} (h1 : ∀ n ∈ found, Hng gLA on n) (hc : ∀ x ∈ gLA, (∃ r ∈ x.rd, r ∈ on ∨ r ∈ found) → x.at_ ∈ found) (n : Int) : n ∈ found ↔ Hng gLA on n := hang_done h1 hc n
theorem gla_now {on : List Int} (x : Lk) (r : Int) (hx : x ∈ gLA) (hr : r ∈ x.rd) (ho : r ∈ on) : Hng gLA on x.at_ := .now x hx r hr ho
theorem gla_more {on : List Int} (x : Lk) (r : Int) (hx : x ∈ gLA) (hr : r ∈ x.rd) (h : Hng gLA on r) : Hng gLA on x.at_ := hng_iff.2 ⟨x, hx, rfl, r, hr, .inr h⟩
deriving instance DecidableEq for Lk
theorem gla_h9 (n : Int) : n ∈ [2, (7 : Int)] ↔ Hng gLA [9, 1] n := by
  have h7 : Hng gLA [9, 1] 7 := gla_now ⟨7, [3, 9]⟩ 9 (by decide) (by decide) (by decide)
  have h2 : Hng gLA [9, 1] 2 := gla_more ⟨2, [8, 7]⟩ 7 (by decide) (by decide) h7
  refine gla_hang (fun n hn => ?_) (by decide) n
  simp only [List.mem_cons, List.not_mem_nil, or_false] at hn
  rcases hn with rfl | rfl <;> assumption
theorem gla_h7 (n : Int) : n ∈ [(2 : Int)] ↔ Hng gLA [7] n := by
  have h2 : Hng gLA [7] 2 := gla_now ⟨2, [8, 7]⟩ 7 (by decide) (by decide) (by decide)
  refine gla_hang (fun n hn => ?_) (by decide) n
  obtain rfl := List.mem_singleton.1 hn
  exact h2
theorem gla_h8 (n : Int) : n ∈ [(2 : Int)] ↔ Hng gLA [8] n := by
  have h2 : Hng gLA [8] 2 := gla_now ⟨2, [8, 7]⟩ 8 (by decide) (by decide) (by decide)
  refine gla_hang (fun n hn => ?_) (by decide) n
  obtain rfl := List.mem_singleton.1 hn
  exact h2
theorem gla_h2 (n : Int) : n ∈ ([] : List Int) ↔ Hng gLA [2] n := gla_hang (fun n hn => by cases hn) (by decide) n
theorem gla_cyc (n : Int) : cycN gLA n ↔ n ∈ [3, (5 : Int)] := by
  have h3 : Hng gLA [3] 3 := gla_more ⟨3, [5]⟩ 5 (by decide) (by decide) (gla_now ⟨5, [3]⟩ 3 (by decide) (by decide) (by decide))
  have h5 : Hng gLA [5] 5 := gla_more ⟨5, [3]⟩ 3 (by decide) (by decide) (gla_now ⟨3, [5]⟩ 5 (by decide) (by decide) (by decide))
  constructor
  · intro h
    have hn := (gla_is n).1 (hng_node h)
    unfold cycN at h
    simp only [List.mem_cons, List.not_mem_nil, or_false] at hn
    rcases hn with rfl | rfl | rfl | rfl | rfl
    · have := (gla_h7 7).2 h; revert this; decide
    · decide
    · decide
    · have := (gla_h2 2).2 h; cases this
    · have := (gla_h8 8).2 h; revert this; decide
  · intro h
    simp only [List.mem_cons, List.not_mem_nil, or_false] at h
    rcases h with rfl | rfl
    · exact h3
    · exact h5
theorem gla_nodes {N : Nat} (hN : N = 1024) : nodesG gLA N = [2, 3, 5, 7, 8] := by
  subst hN
  refine rise_eq (upto_rise _ _) (by decide) fun n => ?_
  rw [nodesG_mem gla_ok, gla_is]
  simp only [List.mem_cons, List.not_mem_nil, or_false]; omega
theorem gla_cycG {N : Nat} (hN : N = 1024) : cycG gLA N = [3, 5] := by
  subst hN
  exact rise_eq (upto_rise _ _) (by decide) fun n => by rw [cycG_mem gla_ok, gla_cyc]
theorem gla_hangG {N : Nat} (hN : N = 1024) : hangG gLA [9, 1] N = [2, 7] := by
  subst hN
  exact rise_eq (upto_rise _ _) (by decide) fun n => by rw [hangG_mem gla_ok, gla_h9]
def rdyD (T : List Int) (n : Int) : Prop := n ∈ [7, 3, 5, 2, (8 : Int)] ∧ n ∉ [3, (5 : Int)] ∧ n ∉ T ∧ ∀ x ∈ gLA, x.at_ = n → ∀ r ∈ x.rd, r ∈ [7, 3, 5, 2, (8 : Int)] → r ∉ [3, (5 : Int)] → r ∈ T
instance (T : List Int) (n : Int) : Decidable (rdyD T n) := by unfold rdyD; exact inferInstance
theorem gla_rdy (T : List Int) (n : Int) : rdyN gLA T n ↔ rdyD T n := by
  unfold rdyN rdyD
  simp only [gla_is, gla_cyc]
theorem gla_least {T : List Int} {i : Nat} {n : Int} (hn : ([2, 3, 5, 7, 8] : List Int)[i]? = some n) (hno : ∀ m ∈ ([2, 3, 5, 7, 8] : List Int).take i, ¬ rdyN gLA T m) (hp : rdyN gLA T n) : leastN (rdyN gLA T) 1024 = some n :=
  least_first gla_ok (fun m h => h.1) (i := i) (by rw [gla_nodes rfl]; exact hn) (by rw [gla_nodes rfl]; exact hno) hp
theorem gla_ord {N : Nat} (hN : N = 1024) : ordG gLA N = [7, 8, 2] := by
  have e1 : leastN (rdyN gLA []) N = some 7 := hN ▸ gla_least (i := 3) rfl (by simp only [gla_rdy]; decide) (by rw [gla_rdy]; decide)
  have e2 : leastN (rdyN gLA [7]) N = some 8 := hN ▸ gla_least (i := 4) rfl (by simp only [gla_rdy]; decide) (by rw [gla_rdy]; decide)
  have e3 : leastN (rdyN gLA [7, 8]) N = some 2 := hN ▸ gla_least (i := 0) rfl (by simp only [gla_rdy]; decide) (by rw [gla_rdy]; decide)
  have e4 : leastN (rdyN gLA [7, 8, 2]) N = none := hN ▸ least_nothing gla_ok (fun m h => h.1) (by rw [gla_nodes rfl]; simp only [gla_rdy]; decide)
  obtain ⟨K, hK⟩ : ∃ K, N = K + 2 := ⟨N - 2, by omega⟩
  unfold ordG
  rw [ordF_some e1]
  rw [show ordF gLA N N ([] ++ [7]) = ordF gLA N (K + 1 + 1) [7] from by rw [← hK]; rfl, ordF_some e2, show [7] ++ [(8 : Int)] = [7, 8] from rfl, ordF_some e3]
  exact ordF_none e4
end Go.Proofs.Ytbppkflgokfjhaa
namespace Go.Proofs.Ytbppkflgokfjhaa
open Go.RowKit
def galM (s : Nat) : List LkM := [⟨7, [3, 9], some ⟨s, 0, none⟩, 2⟩, ⟨3, [5], some ⟨s + 1, 0, none⟩, 1⟩, ⟨5, [3], some ⟨s + 1 + 1, 0, none⟩, 1⟩, ⟨2, [8, 7], some ⟨s + 1 + 1 + 1, 0, none⟩, 2⟩, ⟨8, [], none, 0⟩]
theorem gal_row (w W1 W2 W3 W4 W5 : World) (h1 : W1 = w.alloc (.cells #[.int .i64 3, .int .i64 9] 3)) (h2 : W2 = W1.alloc (.cells #[.int .i64 5] 3)) (h3 : W3 = W2.alloc (.cells #[.int .i64 3] 3)) (h4 : W4 = W3.alloc (.cells #[.int .i64 8, .int .i64 7] 3))
    (h5 : W5 = W4.alloc (.cells #[.int .i64 7, .slice (some ⟨w.heap.size, 0, none⟩) 2 2, .int .i64 3, .slice (some ⟨w.heap.size + 1, 0, none⟩) 1 1, .int .i64 5, .slice (some ⟨w.heap.size + 1 + 1, 0, none⟩) 1 1, .int .i64 2, .slice (some ⟨w.heap.size + 1 + 1 + 1, 0, none⟩) 2 2, .int .i64 8, .slice none 0 0] 41)) :
    RowL W5 (fun _ => True) (some ⟨w.heap.size + 1 + 1 + 1 + 1, 0, none⟩) (galM w.heap.size) ∧ Below w.heap.size w W5 := by
  have z1 : W1.heap.size = w.heap.size + 1 := by rw [h1]; simp
  have z2 : W2.heap.size = w.heap.size + 1 + 1 := by rw [h2, ← z1]; simp
  have z3 : W3.heap.size = w.heap.size + 1 + 1 + 1 := by rw [h3, ← z2]; simp
  have z4 : W4.heap.size = w.heap.size + 1 + 1 + 1 + 1 := by rw [h4, ← z3]; simp
  have b5 : Below W4.heap.size W4 W5 := by rw [h5]; exact (Below.refl _ _).alloc (Nat.le_refl _) _
  have b4 : Below W3.heap.size W3 W5 := by
    have : Below W3.heap.size W3 W4 := by rw [h4]; exact (Below.refl _ _).alloc (Nat.le_refl _) _
    exact this.trans (b5.mono this.size)
  have b3 : Below W2.heap.size W2 W5 := by
    have : Below W2.heap.size W2 W3 := by rw [h3]; exact (Below.refl _ _).alloc (Nat.le_refl _) _
    exact this.trans (b4.mono this.size)
  have b2 : Below W1.heap.size W1 W5 := by
    have : Below W1.heap.size W1 W2 := by rw [h2]; exact (Below.refl _ _).alloc (Nat.le_refl _) _
    exact this.trans (b3.mono this.size)
  have b1 : Below w.heap.size w W5 := by
    have : Below w.heap.size w W1 := by rw [h1]; exact (Below.refl _ _).alloc (Nat.le_refl _) _
    exact this.trans (b2.mono this.size)
  have r1 : RowI W5 (fun _ => True) (some ⟨w.heap.size, 0, none⟩) [3, 9] := RowI.below (by rw [h1]; exact rowI_lit (heap_alloc_new w _) rfl trivial) b2
  have r2 : RowI W5 (fun _ => True) (some ⟨w.heap.size + 1, 0, none⟩) [5] := RowI.below (by rw [h2, ← z1]; exact rowI_lit (heap_alloc_new W1 _) rfl trivial) b3
  have r3 : RowI W5 (fun _ => True) (some ⟨w.heap.size + 1 + 1, 0, none⟩) [3] := RowI.below (by rw [h3, ← z2]; exact rowI_lit (heap_alloc_new W2 _) rfl trivial) b4
  have r4 : RowI W5 (fun _ => True) (some ⟨w.heap.size + 1 + 1 + 1, 0, none⟩) [8, 7] := RowI.below (by rw [h4, ← z3]; exact rowI_lit (heap_alloc_new W3 _) rfl trivial) b5
  have hn := heap_alloc_new W4 (.cells #[.int .i64 7, .slice (some ⟨w.heap.size, 0, none⟩) 2 2, .int .i64 3, .slice (some ⟨w.heap.size + 1, 0, none⟩) 1 1, .int .i64 5, .slice (some ⟨w.heap.size + 1 + 1, 0, none⟩) 1 1, .int .i64 2, .slice (some ⟨w.heap.size + 1 + 1 + 1, 0, none⟩) 2 2, .int .i64 8, .slice none 0 0] 41)
  rw [← h5, z4] at hn
  refine ⟨.inr ⟨_, 0, rfl, trivial, (Array.getElem?_eq_some_iff.1 hn).1, fun i q hi => ?_⟩, b1⟩
  rcases i with _ | _ | _ | _ | _ | i
  · obtain rfl := (Option.some.inj hi).symm
    exact ⟨⟨by rw [Lib.cell_of_heap hn]; rfl, by rw [Lib.cell_of_heap hn]; rfl⟩, r1⟩
  · obtain rfl := (Option.some.inj hi).symm
    exact ⟨⟨by rw [Lib.cell_of_heap hn]; rfl, by rw [Lib.cell_of_heap hn]; rfl⟩, r2⟩
  · obtain rfl := (Option.some.inj hi).symm
    exact ⟨⟨by rw [Lib.cell_of_heap hn]; rfl, by rw [Lib.cell_of_heap hn]; rfl⟩, r3⟩
  · obtain rfl := (Option.some.inj hi).symm
    exact ⟨⟨by rw [Lib.cell_of_heap hn]; rfl, by rw [Lib.cell_of_heap hn]; rfl⟩, r4⟩
  · obtain rfl := (Option.some.inj hi).symm
    exact ⟨⟨by rw [Lib.cell_of_heap hn]; rfl, by rw [Lib.cell_of_heap hn]; rfl⟩, .inl rfl⟩
  · cases hi
theorem gal_two (w : World) : RowL (w.alloc (.cells #[.int .i64 7, .slice none 0 0, .int .i64 7, .slice none 0 0] 41)) (fun _ => True) (some ⟨w.heap.size, 0, none⟩) [⟨7, [], none, 0⟩, ⟨7, [], none, 0⟩] := by
  have hn := heap_alloc_new w (.cells #[.int .i64 7, .slice none 0 0, .int .i64 7, .slice none 0 0] 41)
  refine .inr ⟨_, 0, rfl, trivial, (Array.getElem?_eq_some_iff.1 hn).1, fun i q hi => ?_⟩
  rcases i with _ | _ | i
  · obtain rfl := (Option.some.inj hi).symm
    exact ⟨⟨by rw [Lib.cell_of_heap hn]; rfl, by rw [Lib.cell_of_heap hn]; rfl⟩, .inl rfl⟩
  · obtain rfl := (Option.some.inj hi).symm
    exact ⟨⟨by rw [Lib.cell_of_heap hn]; rfl, by rw [Lib.cell_of_heap hn]; rfl⟩, .inl rfl⟩
  · cases hi
theorem gal_may : mayC (lkS [⟨7, [], none, 0⟩, ⟨7, [], none, 0⟩]) = 5 := may_twice (by unfold OkK lkS okN; decide) (by unfold DisL lkS; decide)
theorem gal_small (s : Nat) : ∀ q ∈ galM s, q.rd.length ≤ 60 := by
  intro q hq
  simp only [galM, List.mem_cons, List.not_mem_nil, or_false] at hq
  rcases hq with rfl | rfl | rfl | rfl | rfl <;> simp
theorem gal_zero (s : Nat) : mayC (lkS (galM s)) = 0 := may_ok gla_ok gla_dis
set_option maxHeartbeats 16000000 in
set_option maxRecDepth 10000 in
theorem graphalive_any {N : Nat} {EV : World → Prop} {GP : World → Nat → List Lk → Prop} (hG : GD N EV GP) (hN : N = 1024) : AliveG EV := by
  intro w hE
  have HG := Lib.hid hG
  have HN := Lib.hid hN
  have HEv := Lib.hid (fun (w1 : World) (hb : Below w.heap.size w w1) => hG.up hE hb)
  clear hG hN hE
  go_enter Try.func6, Try.ntmps6
  go_wp2_with fail
  obtain ⟨hr5, hb5⟩ := gal_row w _ _ _ _ _ rfl rfl rfl rfl rfl
  have HNw := Lib.hid (HG.out.new _ (galM w.heap.size) _ 5 _ (HEv.out _ hb5) hr5 (by show 5 ≤ 60; decide) (gal_small _))
  have HB5 := Lib.hid hb5
  clear hr5 hb5
  refine HNw.out.mono ?_; rintro e w6 ⟨hb6, hcase⟩
  rcases hcase with ⟨_, g, rfl, hgp⟩ | ⟨hmay, rfl⟩
  case inr => exact absurd (gal_zero _) hmay
  have hgp : GP w6 g gLA := hgp
  have HB6 := Lib.hid (HB5.out.trans (hb6.mono HB5.out.size))
  have HP6 := Lib.hid hgp
  clear hb6 hgp HNw HB5
  go_wp2_with fail
  have ht := gal_two w6
  have hb7 : Below w6.heap.size w6 (w6.alloc (.cells #[.int .i64 7, .slice none 0 0, .int .i64 7, .slice none 0 0] 41)) := (Below.refl _ _).alloc (Nat.le_refl _) _
  have HNw := Lib.hid (HG.out.new _ [⟨7, [], none, 0⟩, ⟨7, [], none, 0⟩] _ 2 _ (HEv.out _ (HB6.out.trans (hb7.mono HB6.out.size))) ht (by decide) (by decide))
  have HB7 := Lib.hid hb7
  clear ht hb7
  refine HNw.out.mono ?_; rintro e w8 ⟨hb8, hcase⟩
  rcases hcase with ⟨hmay, _⟩ | ⟨_, rfl⟩
  case inl => rw [gal_may] at hmay; cases hmay
  rw [gal_may]
  have HB8 := Lib.hid (HB7.out.trans (hb8.mono HB7.out.size))
  have HP8 := Lib.hid (HG.out.below HP6.out HB8.out)
  have HX := Lib.hid (fun (W : World) (hb : Below w8.heap.size w8 W) => (show Below w.heap.size w W from HB6.out.trans ((HB8.out.trans (hb.mono HB8.out.size)).mono HB6.out.size)))
  have HO := Lib.hid (HG.out.order w8 g gLA (HEv.out w8 (HX.out w8 (Below.refl _ _))) HP8.out gla_ok gla_dis (by decide))
  have HC := Lib.hid (fun (W : World) (hb : Below w8.heap.size w8 W) => HG.out.cyclic W g gLA (HEv.out W (HX.out W hb)) (HG.out.below HP8.out hb) gla_ok gla_dis (by decide))
  have HNd := Lib.hid (fun (W : World) (hb : Below w8.heap.size w8 W) => HG.out.nodes W g gLA (HEv.out W (HX.out W hb)) (HG.out.below HP8.out hb) gla_ok gla_dis (by decide))
  have HH := Lib.hid (fun (W : World) (hb : Below w8.heap.size w8 W) => HG.out.hang (W.alloc (.cells #[.int .i64 9, .int .i64 1] 3)) g gLA [9, 1] (some ⟨W.heap.size, 0, none⟩) 2 (fun _ => True) (HEv.out _ (HX.out _ (hb.trans (((Below.refl W.heap.size W).alloc (Nat.le_refl _) _).mono hb.size)))) (HG.out.below HP8.out (hb.trans (((Below.refl W.heap.size W).alloc (Nat.le_refl _) _).mono hb.size))) gla_ok gla_dis (by decide) (rowI_lit (heap_alloc_new W (.cells #[.int .i64 9, .int .i64 1] 3)) rfl trivial) (by decide) (by unfold B64s; decide))
  rw [gla_ord HN.out] at HO
  simp only [gla_cycG HN.out, gla_nodes HN.out, gla_hangG HN.out] at HC HNd HH
  unfold GRow at HO HC HNd HH
  clear hb8 HNw HP6 HB6 HB7 HB8
  go_wp2_with fail
  refine HO.out.mono ?_; rintro e a1 ⟨O1, c1, rfl, _, hr, hb⟩
  have HQ := Lib.hid hb
  have hba : Below a1.heap.size a1 (a1.alloc (.cells #[.int .i64 7, .int .i64 8, .int .i64 2] 3)) := (Below.refl _ _).alloc (Nat.le_refl _) _
  have HI := Lib.hid (rInts_any [7, 8, 2] [7, 8, 2] O1 (some ⟨a1.heap.size, 0, none⟩) c1 3 _ _ (fun _ => True) (hr.below hba) (rowI_lit (heap_alloc_new a1 _) rfl trivial) (by decide))
  have HR := Lib.hid (HQ.out.trans (hba.mono HQ.out.size))
  rw [decide_eq_true rfl] at HI
  clear hr hb hba
  go_wp2_with fail
  refine HI.out.mono ?_; rintro e b1 ⟨rfl, hb⟩
  have HA1 := Lib.hid (HR.out.trans (hb.mono HR.out.size))
  clear hb HI HQ HR
  go_wp2_with fail
  refine (HC.out b1 HA1.out).mono ?_; rintro e a2 ⟨O2, c2, rfl, _, hr, hb⟩
  have HQ := Lib.hid (HA1.out.trans (hb.mono HA1.out.size))
  have hba : Below a2.heap.size a2 (a2.alloc (.cells #[.int .i64 3, .int .i64 5] 3)) := (Below.refl _ _).alloc (Nat.le_refl _) _
  have HI := Lib.hid (rInts_any [3, 5] [3, 5] O2 (some ⟨a2.heap.size, 0, none⟩) c2 2 _ _ (fun _ => True) (hr.below hba) (rowI_lit (heap_alloc_new a2 _) rfl trivial) (by decide))
  have HR := Lib.hid (HQ.out.trans (hba.mono HQ.out.size))
  rw [decide_eq_true rfl] at HI
  clear hr hb hba
  go_wp2_with fail
  refine HI.out.mono ?_; rintro e b2 ⟨rfl, hb⟩
  have HA2 := Lib.hid (HR.out.trans (hb.mono HR.out.size))
  clear hb HI HQ HR
  go_wp2_with fail
  refine (HH.out b2 HA2.out).mono ?_; rintro e a3 ⟨O3, c3, rfl, _, hr, hb⟩
  have HQ := Lib.hid (HA2.out.trans ((((Below.refl b2.heap.size b2).alloc (Nat.le_refl _) (.cells #[.int .i64 9, .int .i64 1] 3)).trans (hb.mono (by simp))).mono HA2.out.size))
  have hba : Below a3.heap.size a3 (a3.alloc (.cells #[.int .i64 2, .int .i64 7] 3)) := (Below.refl _ _).alloc (Nat.le_refl _) _
  have HI := Lib.hid (rInts_any [2, 7] [2, 7] O3 (some ⟨a3.heap.size, 0, none⟩) c3 2 _ _ (fun _ => True) (hr.below hba) (rowI_lit (heap_alloc_new a3 _) rfl trivial) (by decide))
  have HR := Lib.hid (HQ.out.trans (hba.mono HQ.out.size))
  rw [decide_eq_true rfl] at HI
  clear hr hb hba
  go_wp2_with fail
  refine HI.out.mono ?_; rintro e b3 ⟨rfl, hb⟩
  have HA3 := Lib.hid (HR.out.trans (hb.mono HR.out.size))
  clear hb HI HQ HR
  go_wp2_with fail
  refine (HNd.out b3 HA3.out).mono ?_; rintro e a4 ⟨O4, c4, rfl, _, hr, hb⟩
  have HQ := Lib.hid (HA3.out.trans (hb.mono HA3.out.size))
  have hba : Below a4.heap.size a4 (a4.alloc (.cells #[.int .i64 2, .int .i64 3, .int .i64 5, .int .i64 7, .int .i64 8] 3)) := (Below.refl _ _).alloc (Nat.le_refl _) _
  have HI := Lib.hid (rInts_any [2, 3, 5, 7, 8] [2, 3, 5, 7, 8] O4 (some ⟨a4.heap.size, 0, none⟩) c4 5 _ _ (fun _ => True) (hr.below hba) (rowI_lit (heap_alloc_new a4 _) rfl trivial) (by decide))
  have HR := Lib.hid (HQ.out.trans (hba.mono HQ.out.size))
  rw [decide_eq_true rfl] at HI
  clear hr hb hba
  go_wp2_with fail
  refine HI.out.mono ?_; rintro e b4 ⟨rfl, hb⟩
  have HA4 := Lib.hid (HR.out.trans (hb.mono HR.out.size))
  clear hb HI HQ HR
  go_wp2_with fail
  go_ret
  exact ⟨rfl, HX.out _ HA4.out⟩
end Go.Proofs.Ytbppkflgokfjhaa
