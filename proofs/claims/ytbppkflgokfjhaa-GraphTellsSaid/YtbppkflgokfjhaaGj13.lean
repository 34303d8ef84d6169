/- Texts joined: GrK, NdJm, NdYk, GrM, GrN, GqB. -/
import Derived.Test.YtbppkflgokfjhaaGj12
import Derived.Test.YtbppkflgokfjhaaGj09
import Derived.Test.YtbppkflgokfjhaaGj02
import Derived.Test.YtbppkflgokfjhaaGj03
import Derived.Test.YtbppkflgokfjhaaGj01
import Derived.Test.YtbppkflgokfjhaaGj10
import Derived.Test.YtbppkflgokfjhaaGj11
set_option linter.all false
namespace Go.Proofs.Ytbppkflgokfjhaa
open Go.RowKit
structure GD (N : Nat) (EV : World → Prop) (GP : World → Nat → List Lk → Prop) : Prop where
  up : ∀ {w w' : World}, EV w → Below w.heap.size w w' → EV w'
  below : ∀ {w w' : World} {g : Nat} {L : List Lk}, GP w g L → Below w.heap.size w w' → GP w' g L
  new : ∀ (w : World) (l : List LkM) (A : Option Addr) (ca : Nat) (P : Nat → Prop), EV w → RowL w P A l → l.length ≤ 60 → (∀ q ∈ l, q.rd.length ≤ 60) →
    Calls Try.prog 7 #[.slice A l.length ca] w fun e w' => Below w.heap.size w w' ∧ ((mayC (lkS l) = 0 ∧ ∃ g, e = .returned (.tuple #[.pointer (some ⟨g, 0, none⟩), .int .i64 0]) ∧ GP w' g (lkS l)) ∨ (mayC (lkS l) ≠ 0 ∧ e = .returned (.tuple #[.pointer none, .int .i64 (mayC (lkS l) : Nat)])))
  nodes : ∀ (w : World) (g : Nat) (L : List Lk), EV w → GP w g L → OkK L → DisL L → L.length ≤ 60 → Calls Try.prog 11 #[.pointer (some ⟨g, 0, none⟩)] w fun e w' => GRow w (nodesG L N) e w'
  cyclic : ∀ (w : World) (g : Nat) (L : List Lk), EV w → GP w g L → OkK L → DisL L → L.length ≤ 60 → Calls Try.prog 13 #[.pointer (some ⟨g, 0, none⟩)] w fun e w' => GRow w (cycG L N) e w'
  order : ∀ (w : World) (g : Nat) (L : List Lk), EV w → GP w g L → OkK L → DisL L → L.length ≤ 60 → Calls Try.prog 15 #[.pointer (some ⟨g, 0, none⟩)] w fun e w' => GRow w (ordG L N) e w'
  hang : ∀ (w : World) (g : Nat) (L : List Lk) (on : List Int) (O : Option Addr) (co : Nat) (Q : Nat → Prop), EV w → GP w g L → OkK L → DisL L → L.length ≤ 60 → RowI w Q O on → on.length ≤ 60 → B64s on →
    Calls Try.prog 17 #[.pointer (some ⟨g, 0, none⟩), .slice O on.length co] w fun e w' => GRow w (hangG L on N) e w'
  nodes0 : ∀ w : World, Calls Try.prog 11 #[.pointer none] w fun e w' => GRow w [] e w'
  cyclic0 : ∀ w : World, Calls Try.prog 13 #[.pointer none] w fun e w' => GRow w [] e w'
  order0 : ∀ w : World, Calls Try.prog 15 #[.pointer none] w fun e w' => GRow w [] e w'
  hang0 : ∀ (w : World) (O : Option Addr) (n co : Nat), Calls Try.prog 17 #[.pointer none, .slice O n co] w fun e w' => GRow w [] e w'
def AliveG (EV : World → Prop) : Prop := ∀ w : World, EV w → Calls Try.prog 6 #[] w fun e w' => e = .returned (.bool true) ∧ Below w.heap.size w w'
set_option maxHeartbeats 40000000 in
set_option maxRecDepth 10000 in
theorem graphtells_any {N : Nat} {EV : World → Prop} {GP : World → Nat → List Lk → Prop} (hG : GD N EV GP) (hN : N = 1024) (hAl : AliveG EV) (w : World) (hE : EV w) (l : List LkM) (A : Option Addr) (ca : Nat) (on : List Int) (O : Option Addr) (co : Nat) {P Q : Nat → Prop} (hl : RowL w P A l) (ho : RowI w Q O on) (hll : l.length ≤ maxLen) (hrl : ∀ q ∈ l, q.rd.length ≤ maxLen) (hol : on.length ≤ maxLen) (ho64 : B64s on) :
    Calls Try.prog 3 #[.slice A l.length ca, .slice O on.length co] w fun e w' => e = .returned (.bool true) ∧ Below w.heap.size w w' := by
  have HG := Lib.hid hG
  have HN := Lib.hid hN
  have HEv := Lib.hid (fun (w1 : World) (hb : Below w.heap.size w w1) => hG.up hE hb)
  have HA := Lib.hid (fun (w1 : World) (hb : Below w.heap.size w w1) => hAl w1 (hG.up hE hb))
  have HL := Lib.hid (fun (w1 : World) (hb : Below w.heap.size w w1) => hl.below hb)
  have HOn := Lib.hid (fun (w1 : World) (hb : Below w.heap.size w w1) => ho.below hb)
  have HF := Lib.hid (gfits_any l A ca w hl hll hrl)
  have H64 := Lib.hid ho64
  unfold maxLen at hol
  clear hG hN hAl hE hl ho hll hrl ho64
  unfold FitsG at HF
  go_enter Try.func3, Try.ntmps3
  go_wp2_with fail
  refine HF.out.mono ?_; rintro e w1 ⟨b1, rfl, hf1, hw1⟩
  have hw1' := hw1.symm
  subst hw1'
  have HF1 := Lib.hid hf1
  clear hf1 hw1 HF
  cases b1 with
  | false =>
    go_wp2_with fail
    refine (HA.out _ (Below.refl _ _)).mono ?_; rintro e w1 ⟨rfl, hb1⟩
    go_wp2_with fail
    go_ret
    exact ⟨rfl, hb1⟩
  | true =>
  by_cases h60 : (60 : Int) < (on.length : Int)
  · go_wp2_with fail
    refine (HA.out _ (Below.refl _ _)).mono ?_; rintro e w1 ⟨rfl, hb1⟩
    go_wp2_with fail
    go_ret
    exact ⟨rfl, hb1⟩
  have hl60 : l.length ≤ 60 := (HF1.out rfl).1
  have hr60 : ∀ q ∈ l, q.rd.length ≤ 60 := (HF1.out rfl).2
  have ho60 : on.length ≤ 60 := by omega
  have HR60 := Lib.hid hr60
  have HNw := Lib.hid (HG.out.new w l A ca _ (HEv.out w (Below.refl _ _)) (HL.out w (Below.refl _ _)) hl60 hr60)
  clear HF1 hr60 hol
  go_wp2_with fail
  refine HNw.out.mono ?_; rintro e w1 ⟨hb1, hcase⟩
  have HB1 := Lib.hid hb1
  have HOf := Lib.hid (gof_any l A ca w1 (HL.out w1 hb1) (by omega))
  clear hb1 HNw
  rcases hcase with ⟨hmay, g, rfl, hgp⟩ | ⟨hmay, rfl⟩
  · have HM := Lib.hid hmay
    have HP := Lib.hid hgp
    clear hmay hgp
    go_wp2_with fail
    refine HOf.out.mono ?_; rintro e w2 ⟨O2, c2, rfl, hc2, hr2, hb2⟩
    have HB2 := Lib.hid (HB1.out.trans (hb2.mono HB1.out.size))
    have HP2 := Lib.hid (HG.out.below HP.out hb2)
    have HR2 := Lib.hid hr2
    have HMy := Lib.hid (gmay_any l O2 c2 w2 hr2 (by omega) (fun q hq => by have := HR60.out q hq; omega))
    clear hc2 hr2 hb2 HOf HB1 HP
    unfold GMay at HMy
    rw [HM.out] at HMy
    go_wp2_with fail
    refine HMy.out.mono ?_; rintro e w3 ⟨rfl, hb3⟩
    have HB3 := Lib.hid (HB2.out.trans (hb3.mono HB2.out.size))
    have HP3 := Lib.hid (HG.out.below HP2.out hb3)
    have HR3 := Lib.hid (HR2.out.below hb3)
    obtain ⟨hk, hd⟩ := may_zero HM.out
    have HK := Lib.hid hk
    have HD := Lib.hid hd
    have hLl : (lkS l).length ≤ 60 := by unfold lkS; rw [List.length_map]; exact hl60
    have HLl := Lib.hid hLl
    have hnl : (nodesG (lkS l) N).length ≤ N := upto_len _ _
    have hcl : (cycG (lkS l) N).length ≤ N := upto_len _ _
    have hhl : (hangG (lkS l) on N).length ≤ N := upto_len _ _
    have hol2 : (ordG (lkS l) N).length ≤ 60 := by have := ord_cyc_len hk hd HN.out; omega
    have HN1 := Lib.hid (HG.out.nodes w3 g (lkS l) (HEv.out w3 HB3.out) HP3.out hk hd hLl)
    have HN2 := Lib.hid (fun (W : World) (hb : Below w3.heap.size w3 W) => gnodes_any N HN.out l O2 c2 W (HR3.out.below hb) (by omega))
    have HC1 := Lib.hid (fun (W : World) (hb : Below w3.heap.size w3 W) => HG.out.cyclic W g (lkS l) (HEv.out W (HB3.out.trans (hb.mono HB3.out.size))) (HG.out.below HP3.out hb) HK.out HD.out HLl.out)
    have HC2 := Lib.hid (fun (W : World) (hb : Below w3.heap.size w3 W) => gcyclic_any N HN.out l HK.out O2 c2 W (HR3.out.below hb) (by omega) (fun q hq => by have := HR60.out q hq; omega))
    have HO1 := Lib.hid (fun (W : World) (hb : Below w3.heap.size w3 W) => HG.out.order W g (lkS l) (HEv.out W (HB3.out.trans (hb.mono HB3.out.size))) (HG.out.below HP3.out hb) HK.out HD.out HLl.out)
    have HO2 := Lib.hid (fun (W : World) (hb : Below w3.heap.size w3 W) => gorder_any N HN.out l HK.out HD.out O2 c2 W (HR3.out.below hb) (by omega) (fun q hq => by have := HR60.out q hq; omega))
    have HH1 := Lib.hid (fun (W : World) (hb : Below w3.heap.size w3 W) => HG.out.hang W g (lkS l) on O co _ (HEv.out W (HB3.out.trans (hb.mono HB3.out.size))) (HG.out.below HP3.out hb) HK.out HD.out HLl.out (HOn.out W (HB3.out.trans (hb.mono HB3.out.size))) ho60 H64.out)
    have HH2 := Lib.hid (fun (W : World) (hb : Below w3.heap.size w3 W) => ghang_any N HN.out l O2 c2 on O co W (HR3.out.below hb) (HOn.out W (HB3.out.trans (hb.mono HB3.out.size))) (by omega) (by omega) (fun q hq => by have := HR60.out q hq; omega))
    have hN2 := HN.out
    have hnl2 : (nodesG (lkS l) N).length ≤ maxLen := by unfold maxLen; omega
    have hcl2 : (cycG (lkS l) N).length ≤ maxLen := by unfold maxLen; omega
    have hhl2 : (hangG (lkS l) on N).length ≤ maxLen := by unfold maxLen; omega
    have hol3 : (ordG (lkS l) N).length ≤ maxLen := by unfold maxLen; omega
    have HL4 := Lib.hid (And.intro hnl2 (And.intro hcl2 (And.intro hhl2 hol3)))
    clear hb3 HMy HB2 HP2 HR2 hk hd hLl hnl hcl hhl hol2 hN2 hnl2 hcl2 hhl2 hol3
    generalize nodesG (lkS l) N = NS at *
    generalize cycG (lkS l) N = CS at *
    generalize ordG (lkS l) N = OS at *
    generalize hangG (lkS l) on N = HS at *
    unfold GRow at HN1 HN2 HC1 HC2 HO1 HO2 HH1 HH2
    obtain ⟨l1, l2, l3, l4⟩ := HL4.out
    have HL1 := Lib.hid l1
    have HL2 := Lib.hid l2
    have HL3 := Lib.hid l3
    have HL5 := Lib.hid l4
    clear l1 l2 l3 l4 HL4
    go_wp2_with fail
    refine HN1.out.mono ?_; rintro e w4 ⟨P4, c4, rfl, _, hr4, hb4⟩
    have HB4 := Lib.hid hb4
    have HR4 := Lib.hid hr4
    clear hr4 hb4 HN1
    go_wp2_with fail
    refine (HN2.out w4 HB4.out).mono ?_; rintro e w5 ⟨P5, c5, rfl, _, hr5, hb5⟩
    have HI := Lib.hid (rInts_any NS NS P4 P5 c4 c5 w5 _ _ (HR4.out.below hb5) hr5 HL1.out)
    have HB5 := Lib.hid (HB4.out.trans (hb5.mono HB4.out.size))
    rw [decide_eq_true (rfl : NS = NS)] at HI
    clear hr5 hb5 HB4 HR4 HN2
    go_wp2_with fail
    refine HI.out.mono ?_; rintro e w6 ⟨rfl, hb6⟩
    have HB6 := Lib.hid (HB5.out.trans (hb6.mono HB5.out.size))
    clear hb6 HI HB5
    go_wp2_with fail
    refine (HC1.out w6 HB6.out).mono ?_; rintro e w4 ⟨P4, c4, rfl, _, hr4, hb4⟩
    have HB4 := Lib.hid (HB6.out.trans (hb4.mono HB6.out.size))
    have HR4 := Lib.hid hr4
    clear hr4 hb4 HC1
    go_wp2_with fail
    refine (HC2.out w4 HB4.out).mono ?_; rintro e w5 ⟨P5, c5, rfl, _, hr5, hb5⟩
    have HI := Lib.hid (rInts_any CS CS P4 P5 c4 c5 w5 _ _ (HR4.out.below hb5) hr5 HL2.out)
    have HB5 := Lib.hid (HB4.out.trans (hb5.mono HB4.out.size))
    rw [decide_eq_true (rfl : CS = CS)] at HI
    clear hr5 hb5 HB4 HR4 HC2
    go_wp2_with fail
    refine HI.out.mono ?_; rintro e w7 ⟨rfl, hb7⟩
    have HB7 := Lib.hid (HB5.out.trans (hb7.mono HB5.out.size))
    clear hb7 HI HB5
    go_wp2_with fail
    refine (HO1.out w7 HB7.out).mono ?_; rintro e w4 ⟨P4, c4, rfl, _, hr4, hb4⟩
    have HB4 := Lib.hid (HB7.out.trans (hb4.mono HB7.out.size))
    have HR4 := Lib.hid hr4
    clear hr4 hb4 HO1
    go_wp2_with fail
    refine (HO2.out w4 HB4.out).mono ?_; rintro e w5 ⟨P5, c5, rfl, _, hr5, hb5⟩
    have HI := Lib.hid (rInts_any OS OS P4 P5 c4 c5 w5 _ _ (HR4.out.below hb5) hr5 HL5.out)
    have HB5 := Lib.hid (HB4.out.trans (hb5.mono HB4.out.size))
    rw [decide_eq_true (rfl : OS = OS)] at HI
    clear hr5 hb5 HB4 HR4 HO2
    go_wp2_with fail
    refine HI.out.mono ?_; rintro e w8 ⟨rfl, hb8⟩
    have HB8 := Lib.hid (HB5.out.trans (hb8.mono HB5.out.size))
    clear hb8 HI HB5
    go_wp2_with fail
    refine (HH1.out w8 HB8.out).mono ?_; rintro e w4 ⟨P4, c4, rfl, _, hr4, hb4⟩
    have HB4 := Lib.hid (HB8.out.trans (hb4.mono HB8.out.size))
    have HR4 := Lib.hid hr4
    clear hr4 hb4 HH1
    go_wp2_with fail
    refine (HH2.out w4 HB4.out).mono ?_; rintro e w5 ⟨P5, c5, rfl, _, hr5, hb5⟩
    have HI := Lib.hid (rInts_any HS HS P4 P5 c4 c5 w5 _ _ (HR4.out.below hb5) hr5 HL3.out)
    have HB5 := Lib.hid (HB4.out.trans (hb5.mono HB4.out.size))
    rw [decide_eq_true (rfl : HS = HS)] at HI
    clear hr5 hb5 HB4 HR4 HH2
    go_wp2_with fail
    refine HI.out.mono ?_; rintro e w9 ⟨rfl, hb9⟩
    have HB9 := Lib.hid (HB3.out.trans ((HB5.out.trans (hb9.mono HB5.out.size)).mono HB3.out.size))
    have HAv := Lib.hid (HA.out w9 HB9.out)
    clear hb9 HI HB5
    go_wp2_with fail
    refine HAv.out.mono ?_; rintro e w10 ⟨rfl, hb10⟩
    have HB10 := Lib.hid (HB9.out.trans (hb10.mono HB9.out.size))
    have H0 := Lib.hid (HG.out.nodes0 w10)
    unfold GRow at H0
    clear hb10 HAv HB9
    go_wp2_with fail
    refine H0.out.mono ?_; rintro e w11 ⟨P1, d1, rfl, _, _, hb11⟩
    have HB11 := Lib.hid (HB10.out.trans (hb11.mono HB10.out.size))
    have H1 := Lib.hid (HG.out.cyclic0 w11)
    unfold GRow at H1
    clear hb11 H0 HB10
    go_wp2_with fail
    refine H1.out.mono ?_; rintro e w12 ⟨P2, d2, rfl, _, _, hb12⟩
    have HB12 := Lib.hid (HB11.out.trans (hb12.mono HB11.out.size))
    have H2 := Lib.hid (HG.out.order0 w12)
    unfold GRow at H2
    clear hb12 H1 HB11
    go_wp2_with fail
    refine H2.out.mono ?_; rintro e w13 ⟨P3, d3, rfl, _, _, hb13⟩
    have HB13 := Lib.hid (HB12.out.trans (hb13.mono HB12.out.size))
    have hba : Below w13.heap.size w13 (w13.alloc (.cells #[.int .i64 1] 3)) := (Below.refl _ _).alloc (Nat.le_refl _) _
    have HB14 := Lib.hid (HB13.out.trans (hba.mono HB13.out.size))
    have H3 := Lib.hid (HG.out.hang0 (w13.alloc (.cells #[.int .i64 1] 3)) (some ⟨w13.heap.size, 0, none⟩) 1 1)
    unfold GRow at H3
    clear hb13 H2 HB12 hba HB13
    go_wp2_with fail
    refine H3.out.mono ?_; rintro e w15 ⟨P6, d6, rfl, _, _, hb15⟩
    have HB15 := Lib.hid (HB14.out.trans (hb15.mono HB14.out.size))
    clear hb15 H3 HB14
    go_wp2_with fail
    go_ret
    exact ⟨rfl, HB15.out⟩
  · have HM := Lib.hid hmay
    go_wp2_with fail
    refine HOf.out.mono ?_; rintro e w2 ⟨O2, c2, rfl, hc2, hr2, hb2⟩
    have HB2 := Lib.hid (HB1.out.trans (hb2.mono HB1.out.size))
    have HMy := Lib.hid (gmay_any l O2 c2 w2 hr2 (by omega) (fun q hq => by have := HR60.out q hq; omega))
    clear hc2 hr2 hb2 HOf HB1
    unfold GMay at HMy
    generalize mayC (lkS l) = c at *
    go_wp2_with fail
    refine HMy.out.mono ?_; rintro e w3 ⟨rfl, hb3⟩
    have HB3 := Lib.hid (HB2.out.trans (hb3.mono HB2.out.size))
    have HAv := Lib.hid (HA.out w3 HB3.out)
    have d0 : ((c : Int) != 0) = true := by simpa using hmay
    clear hb3 HMy HB2 hmay
    go_wp2_with fail
    refine HAv.out.mono ?_; rintro e w4 ⟨rfl, hb4⟩
    have HB4 := Lib.hid (HB3.out.trans (hb4.mono HB3.out.size))
    clear hb4 HAv
    go_wp2_with fail
    go_ret
    exact ⟨rfl, HB4.out⟩
end Go.Proofs.Ytbppkflgokfjhaa
namespace Go.Proofs.Ytbppkflgokfjhaa
open Go.RowKit
theorem atR_row {w : World} {g o : Nat} {l : List Int} (h : AtR inW 1 w g o l) : ∀ (i : Nat) (x : Int), l[i]? = some x → w.cell? ⟨g, o + i, none⟩ = some (.int .i64 x) := fun i b hi => by
  have := h i b hi 0 _ rfl
  rwa [Nat.mul_one, Nat.add_zero] at this
end Go.Proofs.Ytbppkflgokfjhaa
namespace Go.Proofs.Ytbppkflgokfjhaa
open Go.RowKit
theorem rowI_lit {w : World} {g : Nat} {cs : Array Value} {T : TypeId} {Q : Nat → Prop} {l : List Int} (hh : w.heap[g]? = some (.cells cs T (0, 0))) (hc : cs.toList = l.flatMap inW) (hQ : Q g) : RowI w Q (some ⟨g, 0, none⟩) l := by
  refine .inr ⟨g, 0, rfl, hQ, (Array.getElem?_eq_some_iff.1 hh).1, atR_row (fun i q hi j u hj => ?_)⟩
  rw [Nat.zero_add, Lib.cell_of_heap hh (i * 1 + j)]
  have := flatR_at (f := inW) (n := 1) (fun _ => rfl) l i q hi j u hj
  rw [← hc] at this
  simpa using this
end Go.Proofs.Ytbppkflgokfjhaa
namespace Go.Proofs.Ytbppkflgokfjhaa
open Go.RowKit
theorem rise_eq : ∀ {a b : List Int}, a.Pairwise (· < ·) → b.Pairwise (· < ·) → (∀ n, n ∈ a ↔ n ∈ b) → a = b
  | [], [], _, _, _ => rfl
  | [], y :: b, _, _, h => by have := (h y).2 (List.mem_cons_self ..); cases this
  | x :: a, [], _, _, h => by have := (h x).1 (List.mem_cons_self ..); cases this
  | x :: a, y :: b, ha, hb, h => by
    obtain ⟨ha1, ha2⟩ := List.pairwise_cons.1 ha
    obtain ⟨hb1, hb2⟩ := List.pairwise_cons.1 hb
    have e : x = y := by
      rcases List.mem_cons.1 ((h x).1 (List.mem_cons_self ..)) with q | q
      · exact q
      · rcases List.mem_cons.1 ((h y).2 (List.mem_cons_self ..)) with p | p
        · exact p.symm
        · have := hb1 x q; have := ha1 y p; omega
    subst e
    rw [rise_eq ha2 hb2 fun n => ?_]
    constructor
    · intro hn
      rcases List.mem_cons.1 ((h n).1 (List.mem_cons_of_mem _ hn)) with q | q
      · have := ha1 n hn; omega
      · exact q
    · intro hn
      rcases List.mem_cons.1 ((h n).2 (List.mem_cons_of_mem _ hn)) with q | q
      · have := hb1 n hn; omega
      · exact q
def gLA : List Lk := [⟨7, [3, 9]⟩, ⟨3, [5]⟩, ⟨5, [3]⟩, ⟨2, [8, 7]⟩, ⟨8, []⟩]
theorem gla_ok : OkK gLA := by unfold OkK gLA okN; decide
theorem gla_dis : DisL gLA := by unfold DisL gLA; decide
theorem gla_is (n : Int) : isN gLA n ↔ n ∈ [7, 3, 5, 2, (8 : Int)] := by
  unfold isN gLA
  simp only [List.mem_cons, List.not_mem_nil, or_false, exists_eq_or_imp, exists_eq_left]
  constructor
  · rintro (h | h | h | h | h) <;> simp [← h]
  · rintro (h | h | h | h | h) <;> simp [h]
theorem gla_hang {on found : List Int} (h1 : ∀ n ∈ found, Hng gLA on n) (hc : ∀ x ∈ gLA, (∃ r ∈ x.rd, r ∈ on ∨ r ∈ found) → x.at_ ∈ found) (n : Int) : n ∈ found ↔ Hng gLA on n := hang_done h1 hc n
theorem gla_now {on : List Int} (x : Lk) (r : Int) (hx : x ∈ gLA) (hr : r ∈ x.rd) (ho : r ∈ on) : Hng gLA on x.at_ := .now x hx r hr ho
theorem gla_more {on : List Int} (x : Lk) (r : Int) (hx : x ∈ gLA) (hr : r ∈ x.rd) (h : Hng gLA on r) : Hng gLA on x.at_ := hng_iff.2 ⟨x, hx, rfl, r, hr, .inr h⟩
deriving instance DecidableEq for Lk
theorem gla_h9 (n : Int) : n ∈ [2, (7 : Int)] ↔ Hng gLA [9, 1] n := by
  have h7 : Hng gLA [9, 1] 7 := gla_now ⟨7, [3, 9]⟩ 9 (by decide) (by decide) (by decide)
  have h2 : Hng gLA [9, 1] 2 := gla_more ⟨2, [8, 7]⟩ 7 (by decide) (by decide) h7
  refine gla_hang (fun n hn => ?_) (by decide) n
  simp only [List.mem_cons, List.not_mem_nil, or_false] at hn
  rcases hn with rfl | rfl <;> assumption
theorem gla_h7 (n : Int) : n ∈ [(2 : Int)] ↔ Hng gLA [7] n := by
  have h2 : Hng gLA [7] 2 := gla_now ⟨2, [8, 7]⟩ 7 (by decide) (by decide) (by decide)
  refine gla_hang (fun n hn => ?_) (by decide) n
  obtain rfl := List.mem_singleton.1 hn
  exact h2
theorem gla_h8 (n : Int) : n ∈ [(2 : Int)] ↔ Hng gLA [8] n := by
  have h2 : Hng gLA [8] 2 := gla_now ⟨2, [8, 7]⟩ 8 (by decide) (by decide) (by decide)
  refine gla_hang (fun n hn => ?_) (by decide) n
  obtain rfl := List.mem_singleton.1 hn
  exact h2
theorem gla_h2 (n : Int) : n ∈ ([] : List Int) ↔ Hng gLA [2] n := gla_hang (fun n hn => by cases hn) (by decide) n
theorem gla_cyc (n : Int) : cycN gLA n ↔ n ∈ [3, (5 : Int)] := by
  have h3 : Hng gLA [3] 3 := gla_more ⟨3, [5]⟩ 5 (by decide) (by decide) (gla_now ⟨5, [3]⟩ 3 (by decide) (by decide) (by decide))
  have h5 : Hng gLA [5] 5 := gla_more ⟨5, [3]⟩ 3 (by decide) (by decide) (gla_now ⟨3, [5]⟩ 5 (by decide) (by decide) (by decide))
  constructor
  · intro h
    have hn := (gla_is n).1 (hng_node h)
    unfold cycN at h
    simp only [List.mem_cons, List.not_mem_nil, or_false] at hn
    rcases hn with rfl | rfl | rfl | rfl | rfl
    · have := (gla_h7 7).2 h; revert this; decide
    · decide
    · decide
    · have := (gla_h2 2).2 h; cases this
    · have := (gla_h8 8).2 h; revert this; decide
  · intro h
    simp only [List.mem_cons, List.not_mem_nil, or_false] at h
    rcases h with rfl | rfl
    · exact h3
    · exact h5
theorem gla_nodes {N : Nat} (hN : N = 1024) : nodesG gLA N = [2, 3, 5, 7, 8] := by
  subst hN
  refine rise_eq (upto_rise _ _) (by decide) fun n => ?_
  rw [nodesG_mem gla_ok, gla_is]
  simp only [List.mem_cons, List.not_mem_nil, or_false]; omega
theorem gla_cycG {N : Nat} (hN : N = 1024) : cycG gLA N = [3, 5] := by
  subst hN
  exact rise_eq (upto_rise _ _) (by decide) fun n => by rw [cycG_mem gla_ok, gla_cyc]
theorem gla_hangG {N : Nat} (hN : N = 1024) : hangG gLA [9, 1] N = [2, 7] := by
  subst hN
  exact rise_eq (upto_rise _ _) (by decide) fun n => by rw [hangG_mem gla_ok, gla_h9]
def rdyD (T : List Int) (n : Int) : Prop := n ∈ [7, 3, 5, 2, (8 : Int)] ∧ n ∉ [3, (5 : Int)] ∧ n ∉ T ∧ ∀ x ∈ gLA, x.at_ = n → ∀ r ∈ x.rd, r ∈ [7, 3, 5, 2, (8 : Int)] → r ∉ [3, (5 : Int)] → r ∈ T
instance (T : List Int) (n : Int) : Decidable (rdyD T n) := by unfold rdyD; exact inferInstance
theorem gla_rdy (T : List Int) (n : Int) : rdyN gLA T n ↔ rdyD T n := by
  unfold rdyN rdyD
  simp only [gla_is, gla_cyc]
theorem gla_least {T : List Int} {i : Nat} {n : Int} (hn : ([2, 3, 5, 7, 8] : List Int)[i]? = some n) (hno : ∀ m ∈ ([2, 3, 5, 7, 8] : List Int).take i, ¬ rdyN gLA T m) (hp : rdyN gLA T n) : leastN (rdyN gLA T) 1024 = some n :=
  least_first gla_ok (fun m h => h.1) (i := i) (by rw [gla_nodes rfl]; exact hn) (by rw [gla_nodes rfl]; exact hno) hp
theorem gla_ord {N : Nat} (hN : N = 1024) : ordG gLA N = [7, 8, 2] := by
  have e1 : leastN (rdyN gLA []) N = some 7 := hN ▸ gla_least (i := 3) rfl (by simp only [gla_rdy]; decide) (by rw [gla_rdy]; decide)
  have e2 : leastN (rdyN gLA [7]) N = some 8 := hN ▸ gla_least (i := 4) rfl (by simp only [gla_rdy]; decide) (by rw [gla_rdy]; decide)
  have e3 : leastN (rdyN gLA [7, 8]) N = some 2 := hN ▸ gla_least (i := 0) rfl (by simp only [gla_rdy]; decide) (by rw [gla_rdy]; decide)
  have e4 : leastN (rdyN gLA [7, 8, 2]) N = none := hN ▸ least_nothing gla_ok (fun m h => h.1) (by rw [gla_nodes rfl]; simp only [gla_rdy]; decide)
  obtain ⟨K, hK⟩ : ∃ K, N = K + 2 := ⟨N - 2, by omega⟩
  unfold ordG
  rw [ordF_some e1]
  rw [show ordF gLA N N ([] ++ [7]) = ordF gLA N (K + 1 + 1) [7] from by rw [← hK]; rfl, ordF_some e2, show [7] ++ [(8 : Int)] = [7, 8] from rfl, ordF_some e3]
  exact ordF_none e4
end Go.Proofs.Ytbppkflgokfjhaa
namespace Go.Proofs.Ytbppkflgokfjhaa
open Go.RowKit
def galM (s : Nat) : List LkM := [⟨7, [3, 9], some ⟨s, 0, none⟩, 2⟩, ⟨3, [5], some ⟨s + 1, 0, none⟩, 1⟩, ⟨5, [3], some ⟨s + 1 + 1, 0, none⟩, 1⟩, ⟨2, [8, 7], some ⟨s + 1 + 1 + 1, 0, none⟩, 2⟩, ⟨8, [], none, 0⟩]
theorem gal_row (w W1 W2 W3 W4 W5 : World) (h1 : W1 = w.alloc (.cells #[.int .i64 3, .int .i64 9] 3)) (h2 : W2 = W1.alloc (.cells #[.int .i64 5] 3)) (h3 : W3 = W2.alloc (.cells #[.int .i64 3] 3)) (h4 : W4 = W3.alloc (.cells #[.int .i64 8, .int .i64 7] 3))
    (h5 : W5 = W4.alloc (.cells #[.int .i64 7, .slice (some ⟨w.heap.size, 0, none⟩) 2 2, .int .i64 3, .slice (some ⟨w.heap.size + 1, 0, none⟩) 1 1, .int .i64 5, .slice (some ⟨w.heap.size + 1 + 1, 0, none⟩) 1 1, .int .i64 2, .slice (some ⟨w.heap.size + 1 + 1 + 1, 0, none⟩) 2 2, .int .i64 8, .slice none 0 0] 41)) :
    RowL W5 (fun _ => True) (some ⟨w.heap.size + 1 + 1 + 1 + 1, 0, none⟩) (galM w.heap.size) ∧ Below w.heap.size w W5 := by
  have z1 : W1.heap.size = w.heap.size + 1 := by rw [h1]; simp
  have z2 : W2.heap.size = w.heap.size + 1 + 1 := by rw [h2, ← z1]; simp
  have z3 : W3.heap.size = w.heap.size + 1 + 1 + 1 := by rw [h3, ← z2]; simp
  have z4 : W4.heap.size = w.heap.size + 1 + 1 + 1 + 1 := by rw [h4, ← z3]; simp
  have b5 : Below W4.heap.size W4 W5 := by rw [h5]; exact (Below.refl _ _).alloc (Nat.le_refl _) _
  have b4 : Below W3.heap.size W3 W5 := by
    have : Below W3.heap.size W3 W4 := by rw [h4]; exact (Below.refl _ _).alloc (Nat.le_refl _) _
    exact this.trans (b5.mono this.size)
  have b3 : Below W2.heap.size W2 W5 := by
    have : Below W2.heap.size W2 W3 := by rw [h3]; exact (Below.refl _ _).alloc (Nat.le_refl _) _
    exact this.trans (b4.mono this.size)
  have b2 : Below W1.heap.size W1 W5 := by
    have : Below W1.heap.size W1 W2 := by rw [h2]; exact (Below.refl _ _).alloc (Nat.le_refl _) _
    exact this.trans (b3.mono this.size)
  have b1 : Below w.heap.size w W5 := by
    have : Below w.heap.size w W1 := by rw [h1]; exact (Below.refl _ _).alloc (Nat.le_refl _) _
    exact this.trans (b2.mono this.size)
  have r1 : RowI W5 (fun _ => True) (some ⟨w.heap.size, 0, none⟩) [3, 9] := RowI.below (by rw [h1]; exact rowI_lit (heap_alloc_new w _) rfl trivial) b2
  have r2 : RowI W5 (fun _ => True) (some ⟨w.heap.size + 1, 0, none⟩) [5] := RowI.below (by rw [h2, ← z1]; exact rowI_lit (heap_alloc_new W1 _) rfl trivial) b3
  have r3 : RowI W5 (fun _ => True) (some ⟨w.heap.size + 1 + 1, 0, none⟩) [3] := RowI.below (by rw [h3, ← z2]; exact rowI_lit (heap_alloc_new W2 _) rfl trivial) b4
  have r4 : RowI W5 (fun _ => True) (some ⟨w.heap.size + 1 + 1 + 1, 0, none⟩) [8, 7] := RowI.below (by rw [h4, ← z3]; exact rowI_lit (heap_alloc_new W3 _) rfl trivial) b5
  have hn := heap_alloc_new W4 (.cells #[.int .i64 7, .slice (some ⟨w.heap.size, 0, none⟩) 2 2, .int .i64 3, .slice (some ⟨w.heap.size + 1, 0, none⟩) 1 1, .int .i64 5, .slice (some ⟨w.heap.size + 1 + 1, 0, none⟩) 1 1, .int .i64 2, .slice (some ⟨w.heap.size + 1 + 1 + 1, 0, none⟩) 2 2, .int .i64 8, .slice none 0 0] 41)
  rw [← h5, z4] at hn
  refine ⟨.inr ⟨_, 0, rfl, trivial, (Array.getElem?_eq_some_iff.1 hn).1, fun i q hi => ?_⟩, b1⟩
  rcases i with _ | _ | _ | _ | _ | i
  · obtain rfl := (Option.some.inj hi).symm
    exact ⟨⟨by rw [Lib.cell_of_heap hn]; rfl, by rw [Lib.cell_of_heap hn]; rfl⟩, r1⟩
  · obtain rfl := (Option.some.inj hi).symm
    exact ⟨⟨by rw [Lib.cell_of_heap hn]; rfl, by rw [Lib.cell_of_heap hn]; rfl⟩, r2⟩
  · obtain rfl := (Option.some.inj hi).symm
    exact ⟨⟨by rw [Lib.cell_of_heap hn]; rfl, by rw [Lib.cell_of_heap hn]; rfl⟩, r3⟩
  · obtain rfl := (Option.some.inj hi).symm
    exact ⟨⟨by rw [Lib.cell_of_heap hn]; rfl, by rw [Lib.cell_of_heap hn]; rfl⟩, r4⟩
  · obtain rfl := (Option.some.inj hi).symm
    exact ⟨⟨by rw [Lib.cell_of_heap hn]; rfl, by rw [Lib.cell_of_heap hn]; rfl⟩, .inl rfl⟩
  · cases hi
theorem gal_two (w : World) : RowL (w.alloc (.cells #[.int .i64 7, .slice none 0 0, .int .i64 7, .slice none 0 0] 41)) (fun _ => True) (some ⟨w.heap.size, 0, none⟩) [⟨7, [], none, 0⟩, ⟨7, [], none, 0⟩] := by
  have hn := heap_alloc_new w (.cells #[.int .i64 7, .slice none 0 0, .int .i64 7, .slice none 0 0] 41)
  refine .inr ⟨_, 0, rfl, trivial, (Array.getElem?_eq_some_iff.1 hn).1, fun i q hi => ?_⟩
  rcases i with _ | _ | i
  · obtain rfl := (Option.some.inj hi).symm
    exact ⟨⟨by rw [Lib.cell_of_heap hn]; rfl, by rw [Lib.cell_of_heap hn]; rfl⟩, .inl rfl⟩
  · obtain rfl := (Option.some.inj hi).symm
    exact ⟨⟨by rw [Lib.cell_of_heap hn]; rfl, by rw [Lib.cell_of_heap hn]; rfl⟩, .inl rfl⟩
  · cases hi
theorem gal_may : mayC (lkS [⟨7, [], none, 0⟩, ⟨7, [], none, 0⟩]) = 5 := may_twice (by unfold OkK lkS okN; decide) (by unfold DisL lkS; decide)
theorem gal_small (s : Nat) : ∀ q ∈ galM s, q.rd.length ≤ 60 := by
  intro q hq
  simp only [galM, List.mem_cons, List.not_mem_nil, or_false] at hq
  rcases hq with rfl | rfl | rfl | rfl | rfl <;> simp
theorem gal_zero (s : Nat) : mayC (lkS (galM s)) = 0 := may_ok gla_ok gla_dis
set_option maxHeartbeats 16000000 in
set_option maxRecDepth 10000 in
theorem graphalive_any {N : Nat} {EV : World → Prop} {GP : World → Nat → List Lk → Prop} (hG : GD N EV GP) (hN : N = 1024) : AliveG EV := by
  intro w hE
  have HG := Lib.hid hG
  have HN := Lib.hid hN
  have HEv := Lib.hid (fun (w1 : World) (hb : Below w.heap.size w w1) => hG.up hE hb)
  clear hG hN hE
  go_enter Try.func6, Try.ntmps6
  go_wp2_with fail
  obtain ⟨hr5, hb5⟩ := gal_row w _ _ _ _ _ rfl rfl rfl rfl rfl
  have HNw := Lib.hid (HG.out.new _ (galM w.heap.size) _ 5 _ (HEv.out _ hb5) hr5 (by show 5 ≤ 60; decide) (gal_small _))
  have HB5 := Lib.hid hb5
  clear hr5 hb5
  refine HNw.out.mono ?_; rintro e w6 ⟨hb6, hcase⟩
  rcases hcase with ⟨_, g, rfl, hgp⟩ | ⟨hmay, rfl⟩
  case inr => exact absurd (gal_zero _) hmay
  have hgp : GP w6 g gLA := hgp
  have HB6 := Lib.hid (HB5.out.trans (hb6.mono HB5.out.size))
  have HP6 := Lib.hid hgp
  clear hb6 hgp HNw HB5
  go_wp2_with fail
  have ht := gal_two w6
  have hb7 : Below w6.heap.size w6 (w6.alloc (.cells #[.int .i64 7, .slice none 0 0, .int .i64 7, .slice none 0 0] 41)) := (Below.refl _ _).alloc (Nat.le_refl _) _
  have HNw := Lib.hid (HG.out.new _ [⟨7, [], none, 0⟩, ⟨7, [], none, 0⟩] _ 2 _ (HEv.out _ (HB6.out.trans (hb7.mono HB6.out.size))) ht (by decide) (by decide))
  have HB7 := Lib.hid hb7
  clear ht hb7
  refine HNw.out.mono ?_; rintro e w8 ⟨hb8, hcase⟩
  rcases hcase with ⟨hmay, _⟩ | ⟨_, rfl⟩
  case inl => rw [gal_may] at hmay; cases hmay
  rw [gal_may]
  have HB8 := Lib.hid (HB7.out.trans (hb8.mono HB7.out.size))
  have HP8 := Lib.hid (HG.out.below HP6.out HB8.out)
  have HX := Lib.hid (fun (W : World) (hb : Below w8.heap.size w8 W) => (show Below w.heap.size w W from HB6.out.trans ((HB8.out.trans (hb.mono HB8.out.size)).mono HB6.out.size)))
  have HO := Lib.hid (HG.out.order w8 g gLA (HEv.out w8 (HX.out w8 (Below.refl _ _))) HP8.out gla_ok gla_dis (by decide))
  have HC := Lib.hid (fun (W : World) (hb : Below w8.heap.size w8 W) => HG.out.cyclic W g gLA (HEv.out W (HX.out W hb)) (HG.out.below HP8.out hb) gla_ok gla_dis (by decide))
  have HNd := Lib.hid (fun (W : World) (hb : Below w8.heap.size w8 W) => HG.out.nodes W g gLA (HEv.out W (HX.out W hb)) (HG.out.below HP8.out hb) gla_ok gla_dis (by decide))
  have HH := Lib.hid (fun (W : World) (hb : Below w8.heap.size w8 W) => HG.out.hang (W.alloc (.cells #[.int .i64 9, .int .i64 1] 3)) g gLA [9, 1] (some ⟨W.heap.size, 0, none⟩) 2 (fun _ => True) (HEv.out _ (HX.out _ (hb.trans (((Below.refl W.heap.size W).alloc (Nat.le_refl _) _).mono hb.size)))) (HG.out.below HP8.out (hb.trans (((Below.refl W.heap.size W).alloc (Nat.le_refl _) _).mono hb.size))) gla_ok gla_dis (by decide) (rowI_lit (heap_alloc_new W (.cells #[.int .i64 9, .int .i64 1] 3)) rfl trivial) (by decide) (by unfold B64s; decide))
  rw [gla_ord HN.out] at HO
  simp only [gla_cycG HN.out, gla_nodes HN.out, gla_hangG HN.out] at HC HNd HH
  unfold GRow at HO HC HNd HH
  clear hb8 HNw HP6 HB6 HB7 HB8
  go_wp2_with fail
  refine HO.out.mono ?_; rintro e a1 ⟨O1, c1, rfl, _, hr, hb⟩
  have HQ := Lib.hid hb
  have hba : Below a1.heap.size a1 (a1.alloc (.cells #[.int .i64 7, .int .i64 8, .int .i64 2] 3)) := (Below.refl _ _).alloc (Nat.le_refl _) _
  have HI := Lib.hid (rInts_any [7, 8, 2] [7, 8, 2] O1 (some ⟨a1.heap.size, 0, none⟩) c1 3 _ _ (fun _ => True) (hr.below hba) (rowI_lit (heap_alloc_new a1 _) rfl trivial) (by decide))
  have HR := Lib.hid (HQ.out.trans (hba.mono HQ.out.size))
  rw [decide_eq_true rfl] at HI
  clear hr hb hba
  go_wp2_with fail
  refine HI.out.mono ?_; rintro e b1 ⟨rfl, hb⟩
  have HA1 := Lib.hid (HR.out.trans (hb.mono HR.out.size))
  clear hb HI HQ HR
  go_wp2_with fail
  refine (HC.out b1 HA1.out).mono ?_; rintro e a2 ⟨O2, c2, rfl, _, hr, hb⟩
  have HQ := Lib.hid (HA1.out.trans (hb.mono HA1.out.size))
  have hba : Below a2.heap.size a2 (a2.alloc (.cells #[.int .i64 3, .int .i64 5] 3)) := (Below.refl _ _).alloc (Nat.le_refl _) _
  have HI := Lib.hid (rInts_any [3, 5] [3, 5] O2 (some ⟨a2.heap.size, 0, none⟩) c2 2 _ _ (fun _ => True) (hr.below hba) (rowI_lit (heap_alloc_new a2 _) rfl trivial) (by decide))
  have HR := Lib.hid (HQ.out.trans (hba.mono HQ.out.size))
  rw [decide_eq_true rfl] at HI
  clear hr hb hba
  go_wp2_with fail
  refine HI.out.mono ?_; rintro e b2 ⟨rfl, hb⟩
  have HA2 := Lib.hid (HR.out.trans (hb.mono HR.out.size))
  clear hb HI HQ HR
  go_wp2_with fail
  refine (HH.out b2 HA2.out).mono ?_; rintro e a3 ⟨O3, c3, rfl, _, hr, hb⟩
  have HQ := Lib.hid (HA2.out.trans ((((Below.refl b2.heap.size b2).alloc (Nat.le_refl _) (.cells #[.int .i64 9, .int .i64 1] 3)).trans (hb.mono (by simp))).mono HA2.out.size))
  have hba : Below a3.heap.size a3 (a3.alloc (.cells #[.int .i64 2, .int .i64 7] 3)) := (Below.refl _ _).alloc (Nat.le_refl _) _
  have HI := Lib.hid (rInts_any [2, 7] [2, 7] O3 (some ⟨a3.heap.size, 0, none⟩) c3 2 _ _ (fun _ => True) (hr.below hba) (rowI_lit (heap_alloc_new a3 _) rfl trivial) (by decide))
  have HR := Lib.hid (HQ.out.trans (hba.mono HQ.out.size))
  rw [decide_eq_true rfl] at HI
  clear hr hb hba
  go_wp2_with fail
  refine HI.out.mono ?_; rintro e b3 ⟨rfl, hb⟩
  have HA3 := Lib.hid (HR.out.trans (hb.mono HR.out.size))
  clear hb HI HQ HR
  go_wp2_with fail
  refine (HNd.out b3 HA3.out).mono ?_; rintro e a4 ⟨O4, c4, rfl, _, hr, hb⟩
  have HQ := Lib.hid (HA3.out.trans (hb.mono HA3.out.size))
  have hba : Below a4.heap.size a4 (a4.alloc (.cells #[.int .i64 2, .int .i64 3, .int .i64 5, .int .i64 7, .int .i64 8] 3)) := (Below.refl _ _).alloc (Nat.le_refl _) _
  have HI := Lib.hid (rInts_any [2, 3, 5, 7, 8] [2, 3, 5, 7, 8] O4 (some ⟨a4.heap.size, 0, none⟩) c4 5 _ _ (fun _ => True) (hr.below hba) (rowI_lit (heap_alloc_new a4 _) rfl trivial) (by decide))
  have HR := Lib.hid (HQ.out.trans (hba.mono HQ.out.size))
  rw [decide_eq_true rfl] at HI
  clear hr hb hba
  go_wp2_with fail
  refine HI.out.mono ?_; rintro e b4 ⟨rfl, hb⟩
  have HA4 := Lib.hid (HR.out.trans (hb.mono HR.out.size))
  clear hb HI HQ HR
  go_wp2_with fail
  go_ret
  exact ⟨rfl, HX.out _ HA4.out⟩
end Go.Proofs.Ytbppkflgokfjhaa
namespace Go.Proofs.Ytbppkflgokfjhaa
open Go.RowKit Go.Maps Go.Sort
def EVG (_ : World) : Prop := True
set_option maxHeartbeats 4000000 in
set_option maxRecDepth 10000 in
theorem pnodes_nil (w : World) : Calls Try.prog 11 #[.pointer none] w fun e w' => GRow w [] e w' := by
  go_enter Try.func11, Try.ntmps11
  go_wp2_with fail
  go_ret
  exact ⟨none, 0, rfl, Nat.le_refl _, .inl rfl, Below.refl _ _⟩
set_option maxHeartbeats 4000000 in
set_option maxRecDepth 10000 in
theorem phang_nil (w : World) (O : Option Addr) (n co : Nat) : Calls Try.prog 17 #[.pointer none, .slice O n co] w fun e w' => GRow w [] e w' := by
  go_enter Try.func17, Try.ntmps17
  go_wp2_with fail
  go_ret
  exact ⟨none, 0, rfl, Nat.le_refl _, .inl rfl, Below.refl _ _⟩
set_option maxHeartbeats 4000000 in
set_option maxRecDepth 10000 in
theorem porder_nil (w : World) : Calls Try.prog 15 #[.pointer none] w fun e w' => GRow w [] e w' := by
  go_enter Try.func15, Try.ntmps15
  go_wp2_with fail
  go_step3
  go_wp2_with fail
  go_ret
  exact ⟨none, 0, rfl, Nat.le_refl _, .inl rfl, Below.refl _ _⟩
set_option maxHeartbeats 4000000 in
set_option maxRecDepth 10000 in
theorem pcyclic_nil (w : World) : Calls Try.prog 13 #[.pointer none] w fun e w' => GRow w [] e w' := by
  have hb1 : Below w.heap.size w (w.alloc (.cells #[.pointer none] 26)) := (Below.refl _ _).alloc (Nat.le_refl _) _
  go_enter Try.func13, Try.ntmps13
  go_wp2_with fail
  go_ret
  exact ⟨none, 0, rfl, Nat.le_refl _, .inl rfl, hb1⟩
theorem graph_does : GD 1024 EVG GP12 where
  up := fun _ _ => trivial
  below := fun h hb => h.below hb
  new := fun w l A ca P _ hl hll hrl => pnew_any w l A ca P hl hll hrl
  nodes := fun w g L _ hP hk _ _ => (pnodes_any w g L hP hk).mono fun _ _ h => h.g
  cyclic := fun w g L _ hP hk _ hL => pcyclic_any w g L hP hk hL
  order := fun w g L _ hP hk _ hL => porder_any w g L hP hk hL
  hang := fun w g L on O co Q _ hP hk _ hL ho hol h64 => phang_any w g L on O co Q hP hk hL ho hol h64
  nodes0 := pnodes_nil
  cyclic0 := pcyclic_nil
  order0 := porder_nil
  hang0 := phang_nil
theorem alive_does : AliveG EVG := graphalive_any graph_does rfl
end Go.Proofs.Ytbppkflgokfjhaa
