/- Texts joined: MoX, MoY. -/
import Derived.Test.YthaoalmhhgllmaaDoorMb25
import Derived.Test.YthaoalmhhgllmaaDoorMb07
import Derived.Deep.CutRange
import Derived.Deep.LoopGhost
import Derived.Test.YthaoalmhhgllmaaDoorMb13
set_option linter.all false
namespace Go.Proofs.YthaoalmhhgllmaaDoor
open Go.RowKit
theorem move5 {w : World} {g o : Nat} {l : List Mov} (h : AtM w g o l) {i : Nat} {q : Mov} (hi : l[i]? = some q) :
    w.cell? ⟨g, o + i * 5, none⟩ = some (.int .i64 q.c) ∧ w.cell? ⟨g, o + i * 5 + 1, none⟩ = some (.int .i64 q.r) ∧ w.cell? ⟨g, o + i * 5 + 2, none⟩ = some (.int .u8 q.w) ∧ w.cell? ⟨g, o + i * 5 + 3, none⟩ = some (.int .i64 q.f) ∧ w.cell? ⟨g, o + i * 5 + 4, none⟩ = some (.int .u64 q.b) :=
  ⟨h i q hi 0 _ rfl, h i q hi 1 _ rfl, h i q hi 2 _ rfl, h i q hi 3 _ rfl, h i q hi 4 _ rfl⟩
theorem ListM.below {w w' : World} {A : Option Addr} {l : List Mov} (h : ListM w A l) (hb : Below w.heap.size w w') : ListM w' A l := fun hl => by
  obtain ⟨g, o, e, hc⟩ := h hl
  exact ⟨g, o, e, fun i q hi j u hj => keep_cell hb (hc i q hi j u hj)⟩
theorem cell_info4 : (Tryd.prog.info? 74).map (fun i => (i.zero, i.size, i.bytes)) = some (some (.agg #[.int .i64 0, .int .i64 0, .int .i64 0, .int .i64 0]), 4, 32) := by kernel_rfl
theorem known_info3 : (Tryd.prog.info? 37).map (fun i => (i.zero, i.size, i.bytes)) = some (some (.agg #[.int .i64 0, .int .i64 0, .int .i64 0]), 3, 24) := by kernel_rfl
theorem celV_one : ∀ q : Cel, ∀ u ∈ celV q, u.oneCell' = true := by
  intro q u hu
  simp only [celV, List.mem_cons, List.not_mem_nil, or_false] at hu
  rcases hu with rfl | rfl | rfl | rfl <;> rfl
theorem cell_grown {w w' : World} {row : Option Nat} (hg : w.grownBy w' row) {b o : Nat} {v : Value} (hne : some b ≠ row) (h : w.cell? ⟨b, o, none⟩ = some v) : w'.cell? ⟨b, o, none⟩ = some v :=
  (World.cell?_of_block (a := ⟨b, o, none⟩) (hg.block b (Lib.lt_of_cell h) hne)).trans h
theorem map_snoc {α β : Type} (f : α → β) (K : List α) (q : α) : (K ++ [q]).map f = K.map f ++ [f q] := by rw [List.map_append]; rfl
theorem u64w (n : Int) : IntKind.u64.wrap n = n % 18446744073709551616 := by unfold IntKind.wrap; rfl
theorem parM {w w1 : World} {v0 v1 v2 v3 v4 : Value} (hb : Below (w.heap.size + 1) (w.alloc (.cells #[v0, v1, v2, v3, v4] 70)) w1) :
    (w1.cell? ⟨w.heap.size, 0, none⟩ = some v0 ∧ w1.cell? ⟨w.heap.size, 1, none⟩ = some v1 ∧ w1.cell? ⟨w.heap.size, 2, none⟩ = some v2 ∧ w1.cell? ⟨w.heap.size, 3, none⟩ = some v3 ∧ w1.cell? ⟨w.heap.size, 4, none⟩ = some v4) ∧ w.heap.size < w1.heap.size ∧ Below w.heap.size w w1 := by
  have hs := hb.size
  simp at hs
  refine ⟨⟨?_, ?_, ?_, ?_, ?_⟩, by omega, ((Below.refl _ _).alloc (Nat.le_refl _) _).trans (hb.mono (by omega))⟩ <;> (rw [hb.cell (by simp)]; simp [go_sem])
set_option maxHeartbeats 16000000 in
set_option maxRecDepth 100000 in
theorem lcells_any (l : List Mov) (hl : l.length ≤ 300) (hk : ∀ q ∈ l, OkM q) (A : Option Addr) (cap : Nat) (w : World) (hc : ListM w A l) :
    Calls Tryd.prog 14 #[.slice A l.length cap] w fun e w' => ∃ A1 c1 A2 c2 A3 c3, e = .returned (.tuple #[.slice A1 (kpM l).length c1, .slice A2 (kpM l).length c2, .slice A3 (kpM l).length c3]) ∧ ListC w' A1 ((kpM l).map cA) ∧ ListC w' A2 ((kpM l).map cB) ∧ ListK w' A3 ((kpM l).map kN) ∧ Below w.heap.size w w' := by
  obtain ⟨i0, hi0, hz0, hz1, hz2⟩ := info_parts cell_info4
  obtain ⟨i1, hi1, hy0, hy1, hy2⟩ := info_parts known_info3
  have HC := Lib.hid hc
  have HK := Lib.hid hk
  clear hc hk
  go_enter Tryd.func14, Tryd.ntmps14
  go_wp2_with fail
  go_loopg [5, 6, 7, 8] l.length (fun n va vb vk m wr => ∃ i : Nat, i ≤ l.length ∧ n = l.length - i ∧ m = .int .i64 (i : Int) ∧ OwnR 74 4 celV w.heap.size wr va ((kpM (l.take i)).map cA) ∧ OwnR 74 4 celV w.heap.size wr vb ((kpM (l.take i)).map cB) ∧ OwnR 37 3 knoV w.heap.size wr vk ((kpM (l.take i)).map kN) ∧ Apart va vb ∧ Apart va vk ∧ Apart vb vk ∧ Below w.heap.size w wr)
  case atStart => exact ⟨0, Nat.zero_le _, rfl, rfl, World.ownsRow_nil _ _ _ _, World.ownsRow_nil _ _ _ _, World.ownsRow_nil _ _ _ _, Apart.nil _, Apart.nil _, Apart.nil _, Below.refl _ _⟩
  case round =>
    obtain ⟨i, hi, hgn, rfl, h1, h2, h3, p12, p13, p23, hbel⟩ := hrel
    have zs := hbel.size
    have HP : Hid (Apart _ _ ∧ Apart _ _ ∧ Apart _ _) := Lib.hid ⟨p12, p13, p23⟩
    have hkl : (kpM (l.take i)).length ≤ 300 := by
      have := kp_len (l.take i) []
      rw [List.length_take, List.length_nil] at this
      show ((l.take i).foldl stepM []).length ≤ 300
      omega
    have HO : Hid (OwnR 74 4 celV w.heap.size wr _ ((kpM (l.take i)).map cA) ∧ OwnR 74 4 celV w.heap.size wr _ ((kpM (l.take i)).map cB) ∧ OwnR 37 3 knoV w.heap.size wr _ ((kpM (l.take i)).map kN)) := Lib.hid ⟨h1, h2, h3⟩
    obtain ⟨VA, vc, hva, _, hvl⟩ := OwnR.shape (f := celV) (fun _ => rfl) h1
    rw [List.length_map] at hva
    clear h1 h2 h3 p12 p13 p23
    by_cases hlt : i < l.length
    · obtain ⟨q, hq⟩ : ∃ q, l[i]? = some q := ⟨_, List.getElem?_eq_getElem hlt⟩
      obtain ⟨g, o, rfl, hat⟩ := (HC.out.below hbel) (by rintro rfl; simp at hlt)
      obtain ⟨c0, c1, c2, c3, c4⟩ := move5 hat hq
      have hok := HK.out q (List.mem_of_getElem? hq)
      have HN := Lib.hid (kp_next hq)
      have HVl : Hid (ListC wr VA ((kpM (l.take i)).map cA)) := Lib.hid hvl
      have zg : g < wr.heap.size := Lib.lt_of_cell c0
      clear hat hq hvl
      generalize kpM (l.take i) = K at *
      have HAt := Lib.hid (fun w' (hb : Below wr.heap.size wr w') => rAt_any (K.map cA) (by rw [List.length_map]; unfold maxLen; omega) VA vc q.c q.r w' (ListC.below HVl.out hb))
      rw [List.length_map] at HAt
      have HS : Hid ((cAt q.c q.r (K.map cA)).isSome = true → stepM K q = K) := Lib.hid fun h => by unfold stepM; rw [if_pos h]
      have HS2 : Hid ((cAt q.c q.r (K.map cA)).isSome = false → stepM K q = K ++ [q]) := Lib.hid fun h => by unfold stepM; rw [if_neg (by rw [h]; decide)]
      generalize (cAt q.c q.r (K.map cA)).isSome = S at *
      generalize oN (cAt q.c q.r (K.map cA)) = X at *
      generalize oF (cAt q.c q.r (K.map cA)) = Y at *
      go_wp2_with fail
      refine Calls.mono (HAt.out _ ((Below.refl _ _).alloc (Nat.le_refl _) _)) ?_; rintro e w2 ⟨rfl, b2⟩
      have HM : Hid (∀ w', Below w2.heap.size w2 w' → (w'.cell? ⟨wr.heap.size, 0, none⟩ = some (.int .i64 q.c) ∧ w'.cell? ⟨wr.heap.size, 1, none⟩ = some (.int .i64 q.r) ∧ w'.cell? ⟨wr.heap.size, 2, none⟩ = some (.int .u8 q.w) ∧ w'.cell? ⟨wr.heap.size, 3, none⟩ = some (.int .i64 q.f) ∧ w'.cell? ⟨wr.heap.size, 4, none⟩ = some (.int .u64 q.b)) ∧ wr.heap.size < w'.heap.size ∧ Below wr.heap.size wr w') := Lib.hid fun w' hb => parM ((b2.mono (by simp)).trans (hb.mono (by have := b2.size; simpa using this)))
      have zb : wr.heap.size < w2.heap.size := by have := b2.size; simp at this; omega
      clear b2 HAt c0 c1 c2 c3 c4
      cases S with
      | true =>
        have HN1 := Lib.hid (HN.out.trans (HS.out rfl))
        clear hva
        go_wp2_with fail
        have hb3 := (HM.out _ ((Below.refl _ _).alloc (Nat.le_refl _) (.cells #[.int .i64 X, .int .i64 Y] 53))).2.2
        go_roundg (l.length - (i + 1))
        case measure => omega
        case rel => exact ⟨i + 1, by omega, rfl, by go_num, by rw [HN1.out]; exact OwnR.below HO.out.1 hb3, by rw [HN1.out]; exact OwnR.below HO.out.2.1 hb3, by rw [HN1.out]; exact OwnR.below HO.out.2.2 hb3, HP.out.1, HP.out.2.1, HP.out.2.2, hbel.trans (hb3.mono zs)⟩
      | false =>
        have HN1 := Lib.hid (HN.out.trans (HS2.out rfl))
        obtain ⟨⟨m0, m1, m2, m3, m4⟩, zm, hb3⟩ := HM.out _ ((Below.refl _ _).alloc (Nat.le_refl _) (.cells #[.int .i64 X, .int .i64 Y] 53))
        obtain ⟨hqc, hqr, hqw, hqf, hqb⟩ := hok
        have zV : wr.heap.size ≠ w2.heap.size := by omega
        clear zm hva
        go_upto_region 11 with fail
        generalize w2.alloc (.cells #[.int .i64 X, .int .i64 Y] 53) = W3 at *
        go_cut [14] from 16 to 117 (fun s14 wx => s14 = .int .u64 (upM q.f) ∧ wx = W3)
        case first =>
          go_wp2_with fail
          all_goals
            go_meet
            refine ⟨congrArg (Value.int _) ?_, rfl⟩
            unfold B64 at hqf
            simp only [u64w, upM]
            omega
        case rest =>
          obtain ⟨rfl, rfl⟩ := hcut
          go_upto_if 47 with fail
          go_cut [15] from 16 to 117 (fun s15 wx => s15 = .int .u64 (dnM q.f) ∧ wx = wc)
          case first =>
            go_wp2_with fail
            all_goals
              go_meet
              refine ⟨congrArg (Value.int _) ?_, rfl⟩
              unfold B64 at hqf
              simp only [u64w, wrap64, dnM]
              split <;> omega
          case rest =>
            obtain ⟨rfl, rfl⟩ := hcut
            go_upto_region 15 with fail
            go_cut [12, 65] from 16 to 117 (fun s12 s65 wx => s12 = .int .i64 (q.w % 4) ∧ s65 = .bool (decide (q.w % 4 = 1 ∨ (q.w % 4 = 3 ∧ q.b % 2 = 0))) ∧ wx = wc)
            case first =>
              go_wp2_with fail
              all_goals
                go_meet
                refine ⟨congrArg (Value.int _) (by omega), congrArg Value.bool ?_, rfl⟩
                first | (symm; apply decide_eq_true; omega) | (symm; apply decide_eq_false; omega) | (apply decide_eq_decide.2; omega)
            case rest =>
              obtain ⟨rfl, rfl, rfl⟩ := hcut
              have HP1 : Hid (∀ x y : Int, (if decide (q.w % 4 = 1 ∨ (q.w % 4 = 3 ∧ q.b % 2 = 0)) = true then x else y) = if q.w % 4 = 1 ∨ (q.w % 4 = 3 ∧ q.b % 2 = 0) then x else y) := Lib.hid fun x y => by simp only [decide_eq_true_eq]
              generalize decide (q.w % 4 = 1 ∨ (q.w % 4 = 3 ∧ q.b % 2 = 0)) = P1 at *
              go_upto_if 65 with fail
              go_cut [13] from 16 to 117 (fun s13 wx => s13 = .int .i64 (if P1 = true then q.f + min q.b (upM q.f) else q.f) ∧ wx = wc)
              case first =>
                go_wp2_with fail
                all_goals
                  go_meet
                  refine ⟨congrArg (Value.int _) ?_, rfl⟩
                  have hup := up_b hqf
                  unfold B64 at hqf
                  generalize upM q.f = U at *
                  simp (disch := assumption) only [wrap64, if_true, if_false, Bool.false_eq_true, *] <;> omega
              case rest =>
                obtain ⟨rfl, rfl⟩ := hcut
                have HT : Hid ((if decide (q.w % 4 = 2 ∨ (q.w % 4 = 3 ∧ q.b % 2 = 1)) = true then q.f - min q.b (dnM q.f) else (if P1 = true then q.f + min q.b (upM q.f) else q.f)) = toM q) := Lib.hid (by rw [HP1.out]; simp only [decide_eq_true_eq]; unfold toM; repeat' split; all_goals (first | rfl | omega))
                generalize (if P1 = true then q.f + min q.b (upM q.f) else q.f) = E13 at *
                clear HP1
                go_upto_region 17 with fail
                go_cut [12, 85] from 16 to 117 (fun s12 s85 wx => s12 = .int .i64 (q.w % 4) ∧ s85 = .bool (decide (q.w % 4 = 2 ∨ (q.w % 4 = 3 ∧ q.b % 2 = 1))) ∧ wx = wc)
                case first =>
                  go_wp2_with fail
                  all_goals
                    go_meet
                    refine ⟨congrArg (Value.int _) (by omega), congrArg Value.bool ?_, rfl⟩
                    first | (symm; apply decide_eq_true; omega) | (symm; apply decide_eq_false; omega) | (apply decide_eq_decide.2; omega)
                case rest =>
                  obtain ⟨rfl, rfl, rfl⟩ := hcut
                  generalize decide (q.w % 4 = 2 ∨ (q.w % 4 = 3 ∧ q.b % 2 = 1)) = P2 at *
                  go_upto_if 85 with fail
                  go_cut [13] from 16 to 117 (fun s13 wx => s13 = .int .i64 (if P2 = true then q.f - min q.b (dnM q.f) else E13) ∧ wx = wc)
                  case first =>
                    go_wp2_with fail
                    all_goals
                      go_meet
                      refine ⟨congrArg (Value.int _) ?_, rfl⟩
                      have hdn := dn_b hqf
                      unfold B64 at hqf
                      generalize dnM q.f = D at *
                      simp (disch := assumption) only [wrap64, if_true, if_false, Bool.false_eq_true, *] <;> omega
                  case rest =>
                    obtain ⟨rfl, rfl⟩ := hcut
                    rw [HT.out]
                    clear HT
                    have z3 : w.heap.size ≤ wc.heap.size := Nat.le_trans zs hb3.size
                    have HB3 := Lib.hid (hbel.trans (hb3.mono zs))
                    have n1 : ∀ k, u5.ownBlock = some k → k < wr.heap.size := fun k hk => (World.ownsRow.lt HO.out.1 k hk).2
                    have n2 : ∀ k, u6.ownBlock = some k → k < wr.heap.size := fun k hk => (World.ownsRow.lt HO.out.2.1 k hk).2
                    have n3 : ∀ k, u7.ownBlock = some k → k < wr.heap.size := fun k hk => (World.ownsRow.lt HO.out.2.2 k hk).2
                    have N1 := Lib.hid n1
                    have N2 := Lib.hid n2
                    have N3 := Lib.hid n3
                    have O1 := Lib.hid (OwnR.below HO.out.1 hb3)
                    have O2 := Lib.hid (OwnR.below HO.out.2.1 hb3)
                    have O3 := Lib.hid (OwnR.below HO.out.2.2 hb3)
                    clear n1 n2 n3 hb3 HO
                    go_wp2_with (at_builtin; refine of_stop ?_)
                    refine stop_of ?_
                    refine wpList_append_row (f := celV) _ (by rfl) _ _ (by rfl) (by rfl) (w0 := wc) (q := cA q) (by rfl) O1.out (by rfl) Tryd.underlying48 hi0 hz0 hz1 hz2 rfl (by decide) (by decide) (fun _ => rfl) celV_one (by rw [List.length_map]; omega) z3 ?_
                    intro v4 w4 hown4 hg4 hat4
                    have e4 : some wr.heap.size ≠ u5.ownBlock := fun e => Nat.lt_irrefl _ (N1.out _ e.symm)
                    have HB4 := Lib.hid (HB3.out.grown hg4 z3 (fun k hk => (World.ownsRow.lt O1.out k hk).1))
                    have z4 : w.heap.size ≤ w4.heap.size := HB4.out.size
                    have Q1 := Lib.hid hown4
                    have Q2 := Lib.hid (OwnR.beside O2.out hg4 HP.out.1)
                    have Q3 := Lib.hid (OwnR.beside O3.out hg4 HP.out.2.1)
                    have A12 := Lib.hid (OwnR.apart O2.out HP.out.1 hat4)
                    have A13 := Lib.hid (OwnR.apart O3.out HP.out.2.1 hat4)
                    have r0 := cell_grown hg4 e4 m0
                    have r1 := cell_grown hg4 e4 m1
                    have r2 := cell_grown hg4 e4 m2
                    have r3 := cell_grown hg4 e4 m3
                    have r4 := cell_grown hg4 e4 m4
                    clear hown4 hg4 hat4 m0 m1 m2 m3 m4 e4 O1 O2 O3 HB3 z3
                    go_wp2_with (at_builtin; refine of_stop ?_)
                    refine stop_of ?_
                    refine wpList_append_row (f := celV) _ (by rfl) _ _ (by rfl) (by rfl) (w0 := w4) (q := cB q) (by rfl) Q2.out (by rfl) Tryd.underlying48 hi0 hz0 hz1 hz2 rfl (by decide) (by decide) (fun _ => rfl) celV_one (by rw [List.length_map]; omega) z4 ?_
                    intro v5 w5 hown5 hg5 hat5
                    have e5 : some wr.heap.size ≠ u6.ownBlock := fun e => Nat.lt_irrefl _ (N2.out _ e.symm)
                    have HB5 := Lib.hid (HB4.out.grown hg5 z4 (fun k hk => (World.ownsRow.lt Q2.out k hk).1))
                    have z5 : w.heap.size ≤ w5.heap.size := HB5.out.size
                    have R2 := Lib.hid hown5
                    have R1 := Lib.hid (OwnR.beside Q1.out hg5 A12.out.symm)
                    have R3 := Lib.hid (OwnR.beside Q3.out hg5 HP.out.2.2)
                    have B12 := Lib.hid (OwnR.apart Q1.out A12.out.symm hat5).symm
                    have B23 := Lib.hid (OwnR.apart Q3.out HP.out.2.2 hat5)
                    have s0 := cell_grown hg5 e5 r0
                    have s1 := cell_grown hg5 e5 r1
                    have s2 := cell_grown hg5 e5 r2
                    have s3 := cell_grown hg5 e5 r3
                    have s4 := cell_grown hg5 e5 r4
                    clear hown5 hg5 hat5 r0 r1 r2 r3 r4 e5 Q1 Q2 Q3 A12 HB4 z4
                    go_wp2_with (at_builtin; refine of_stop ?_)
                    refine stop_of ?_
                    refine wpList_append_row (f := knoV) _ (by rfl) _ _ (by rfl) (by rfl) (w0 := w5) (q := kN q) (by rfl) R3.out (by rfl) Tryd.underlying30 hi1 hy0 hy1 hy2 rfl (by decide) (by decide) (fun _ => rfl) knoV_one (by rw [List.length_map]; omega) z5 ?_
                    intro v6 w6 hown6 hg6 hat6
                    have HB6 := Lib.hid (HB5.out.grown hg6 z5 (fun k hk => (World.ownsRow.lt R3.out k hk).1))
                    have S3 := Lib.hid hown6
                    have S1 := Lib.hid (OwnR.beside R1.out hg6 A13.out.symm)
                    have S2 := Lib.hid (OwnR.beside R2.out hg6 B23.out.symm)
                    have C13 := Lib.hid (OwnR.apart R1.out A13.out.symm hat6).symm
                    have C23 := Lib.hid (OwnR.apart R2.out B23.out.symm hat6).symm
                    rw [← map_snoc, ← HN1.out] at S1 S2 S3
                    clear hown6 hg6 hat6 s0 s1 s2 s3 s4 R1 R2 R3 A13 B23 HB5 z5 HP N1 N2 N3
                    go_wp2_with fail
                    go_roundg (l.length - (i + 1))
                    case measure => omega
                    case rel => exact ⟨i + 1, by omega, rfl, by go_num, S1.out, S2.out, S3.out, B12.out, C13.out, C23.out, HB6.out⟩
    · have hii : i = l.length := by omega
      subst hii
      have hx := HO.out
      rw [List.take_length] at hx
      obtain ⟨A1, k1, e1, _, l1⟩ := OwnR.shape (f := celV) (fun _ => rfl) hx.1
      obtain ⟨A2, k2, e2, _, l2⟩ := OwnR.shape (f := celV) (fun _ => rfl) hx.2.1
      obtain ⟨A3, k3, e3, _, l3⟩ := OwnR.shape (f := knoV) (fun _ => rfl) hx.2.2
      rw [List.length_map] at e1 e2 e3
      have L1 : Hid (ListC wr A1 ((kpM l).map cA)) := Lib.hid l1
      have L2 : Hid (ListC wr A2 ((kpM l).map cB)) := Lib.hid l2
      have L3 : Hid (ListK wr A3 ((kpM l).map kN)) := Lib.hid l3
      subst e1 e2 e3
      clear hx l1 l2 l3 HO hva hvl HP
      go_wp2_with fail
      exact bodyPost_ret (v := .tuple #[.slice A1 (kpM l).length k1, .slice A2 (kpM l).length k2, .slice A3 (kpM l).length k3]) (by simp [results, Tryd.results14, go_sem]) rfl ⟨A1, k1, A2, k2, A3, k3, rfl, L1.out, L2.out, L3.out, hbel⟩
end Go.Proofs.YthaoalmhhgllmaaDoor
namespace Go.Proofs.YthaoalmhhgllmaaDoor
open Go.RowKit
structure GM (t : Tr) (l : List Mov) : Prop where
  wid : Wid t
  fit : Fit t
  len : l.length ≤ maxLen
  ok : ∀ q ∈ l, OkM q
def VB (w : World) (b : Nat) (n f : Int) : Prop := w.cell? ⟨b, 0, none⟩ = some (.int .i64 n) ∧ w.cell? ⟨b, 1, none⟩ = some (.int .i64 f)
theorem VB.below {w w' : World} {b : Nat} {n f : Int} (h : VB w b n f) (hb : Below w.heap.size w w') : VB w' b n f := ⟨keep_cell hb h.1, keep_cell hb h.2⟩
theorem VB.new (w : World) (n f : Int) : VB (w.alloc (.cells #[.int .i64 n, .int .i64 f] 53)) w.heap.size n f := by constructor <;> simp [go_sem]
theorem ok_ow (k : List Kno) (t : Tr) : OkW (owV k t) := by
  unfold owV
  split
  · exact ok_wy k t
  · exact .inr (.inr (.inr rfl))
set_option maxHeartbeats 8000000 in
set_option maxRecDepth 100000 in
theorem moholds_no (t : Tr) (l : List Mov) (hg : GM t l) (w : World) (A : Option Addr) (ca : Nat) (LA : Option Addr) (lc : Nat) (hA : KVc w (fun _ => True) t A ca) (hc : ListM w LA l) {B : Nat} (hSB : B ≤ w.heap.size) (hSt : Strs B B w) (hno : fitsB t = false ∨ 300 < l.length) :
    Calls Tryd.prog 4 #[tv t A ca, .slice LA l.length lc] w fun e w' => e = .returned (.bool true) ∧ Below w.heap.size w w' := by
  have HK := Lib.hid (fun w' (hb : Below (w.heap.size + 1) (w.alloc (.cells #[.int .i64 t.kind, .int .i64 t.num, .int .i64 t.c1, .int .i64 t.r1, .int .i64 t.c2, .int .i64 t.r2, .string ⟨t.word.toArray⟩, .slice A t.kids.length ca] 29)) w') => show Below w.heap.size w w' from ((Below.refl _ _).alloc (Nat.le_refl _) _).trans (hb.mono (by omega)))
  have HB0 : Hid (Below (w.heap.size + 1) (w.alloc (.cells #[.int .i64 t.kind, .int .i64 t.num, .int .i64 t.c1, .int .i64 t.r1, .int .i64 t.c2, .int .i64 t.r2, .string ⟨t.word.toArray⟩, .slice A t.kids.length ca] 29)) (w.alloc (.cells #[.int .i64 t.kind, .int .i64 t.num, .int .i64 t.c1, .int .i64 t.r1, .int .i64 t.c2, .int .i64 t.r2, .string ⟨t.word.toArray⟩, .slice A t.kids.length ca] 29))) := Lib.hid (Below.refl _ _)
  have HL : Hid (∀ w', Below (w.heap.size + 1) (w.alloc (.cells #[.int .i64 t.kind, .int .i64 t.num, .int .i64 t.c1, .int .i64 t.r1, .int .i64 t.c2, .int .i64 t.r2, .string ⟨t.word.toArray⟩, .slice A t.kids.length ca] 29)) w' → w'.cell? ⟨w.heap.size, 0, none⟩ = some (.int .i64 t.kind) ∧ w'.cell? ⟨w.heap.size, 1, none⟩ = some (.int .i64 t.num) ∧ w'.cell? ⟨w.heap.size, 2, none⟩ = some (.int .i64 t.c1) ∧ w'.cell? ⟨w.heap.size, 3, none⟩ = some (.int .i64 t.r1) ∧ w'.cell? ⟨w.heap.size, 4, none⟩ = some (.int .i64 t.c2) ∧ w'.cell? ⟨w.heap.size, 5, none⟩ = some (.int .i64 t.r2) ∧ w'.cell? ⟨w.heap.size, 6, none⟩ = some (.string ⟨t.word.toArray⟩) ∧ w'.cell? ⟨w.heap.size, 7, none⟩ = some (.slice A t.kids.length ca)) := Lib.hid fun w' hb => (parT hb).1
  have HFi := Lib.hid (fun w' (hb : Below (w.heap.size + 1) (w.alloc (.cells #[.int .i64 t.kind, .int .i64 t.num, .int .i64 t.c1, .int .i64 t.r1, .int .i64 t.c2, .int .i64 t.r2, .string ⟨t.word.toArray⟩, .slice A t.kids.length ca] 29)) w') => lfits_any t hg.wid w' A ca ((hA.below (HK.out w' hb)).kv))
  have HAl := Lib.hid (fun w' (hb : Below (w.heap.size + 1) (w.alloc (.cells #[.int .i64 t.kind, .int .i64 t.num, .int .i64 t.c1, .int .i64 t.r1, .int .i64 t.c2, .int .i64 t.r2, .string ⟨t.word.toArray⟩, .slice A t.kids.length ca] 29)) w') => malive w' (B := B) (Nat.le_trans hSB (HK.out w' hb).size) (hSt.later hSB (HK.out w' hb)))
  have hlen := hg.wid.len
  have hll := hg.len
  unfold maxLen at hlen hll
  unfold tv at *
  clear hA hc hSB hSt hg
  generalize fitsB t = F at *
  have hd : F = true → decide ((300 : Int) < (l.length : Int)) = true := fun h => decide_eq_true (by rcases hno with e | e; rw [h] at e; cases e; omega)
  clear hno
  cases F with
  | false =>
    clear hd
    go_enter Tryd.func4, Tryd.ntmps4
    go_wp2_with fail
    refine Calls.mono (HFi.out _ HB0.out) ?_; rintro e w1 ⟨rfl, b1⟩
    have HB1 := Lib.hid (HB0.out.trans (b1.mono (by simp)))
    clear b1
    go_wp2_with fail
    refine Calls.mono (HAl.out _ HB1.out) ?_; rintro e w2 ⟨rfl, b2⟩
    have HB2 := Lib.hid (HB1.out.trans (b2.mono (by have := HB1.out.size; simpa using this)))
    clear b2
    go_wp2_with fail
    go_ret
    exact ⟨rfl, HK.out _ HB2.out⟩
  | true =>
    have hd := hd rfl
    go_enter Tryd.func4, Tryd.ntmps4
    go_wp2_with fail
    refine Calls.mono (HFi.out _ HB0.out) ?_; rintro e w1 ⟨rfl, b1⟩
    have HB1 := Lib.hid (HB0.out.trans (b1.mono (by simp)))
    clear b1
    go_wp2_with fail
    refine Calls.mono (HAl.out _ HB1.out) ?_; rintro e w2 ⟨rfl, b2⟩
    have HB2 := Lib.hid (HB1.out.trans (b2.mono (by have := HB1.out.size; simpa using this)))
    clear b2
    go_wp2_with fail
    go_ret
    exact ⟨rfl, HK.out _ HB2.out⟩
set_option maxHeartbeats 8000000 in
set_option maxRecDepth 100000 in
theorem moholds_yes (t : Tr) (l : List Mov) (hg : GM t l) (w : World) (A : Option Addr) (ca : Nat) (LA : Option Addr) (lc : Nat) (hA : KVc w (fun _ => True) t A ca) (hc : ListM w LA l) {B : Nat} (hSB : B ≤ w.heap.size) (hSt : Strs B B w) (hf : fitsB t = true) (hn : ¬ 300 < l.length) :
    Calls Tryd.prog 4 #[tv t A ca, .slice LA l.length lc] w fun e w' => e = .returned (.bool true) ∧ Below w.heap.size w w' := by
  have HK := Lib.hid (fun w' (hb : Below (w.heap.size + 1) (w.alloc (.cells #[.int .i64 t.kind, .int .i64 t.num, .int .i64 t.c1, .int .i64 t.r1, .int .i64 t.c2, .int .i64 t.r2, .string ⟨t.word.toArray⟩, .slice A t.kids.length ca] 29)) w') => show Below w.heap.size w w' from ((Below.refl _ _).alloc (Nat.le_refl _) _).trans (hb.mono (by omega)))
  have HB0 : Hid (Below (w.heap.size + 1) (w.alloc (.cells #[.int .i64 t.kind, .int .i64 t.num, .int .i64 t.c1, .int .i64 t.r1, .int .i64 t.c2, .int .i64 t.r2, .string ⟨t.word.toArray⟩, .slice A t.kids.length ca] 29)) (w.alloc (.cells #[.int .i64 t.kind, .int .i64 t.num, .int .i64 t.c1, .int .i64 t.r1, .int .i64 t.c2, .int .i64 t.r2, .string ⟨t.word.toArray⟩, .slice A t.kids.length ca] 29))) := Lib.hid (Below.refl _ _)
  have HL : Hid (∀ w', Below (w.heap.size + 1) (w.alloc (.cells #[.int .i64 t.kind, .int .i64 t.num, .int .i64 t.c1, .int .i64 t.r1, .int .i64 t.c2, .int .i64 t.r2, .string ⟨t.word.toArray⟩, .slice A t.kids.length ca] 29)) w' → w'.cell? ⟨w.heap.size, 0, none⟩ = some (.int .i64 t.kind) ∧ w'.cell? ⟨w.heap.size, 1, none⟩ = some (.int .i64 t.num) ∧ w'.cell? ⟨w.heap.size, 2, none⟩ = some (.int .i64 t.c1) ∧ w'.cell? ⟨w.heap.size, 3, none⟩ = some (.int .i64 t.r1) ∧ w'.cell? ⟨w.heap.size, 4, none⟩ = some (.int .i64 t.c2) ∧ w'.cell? ⟨w.heap.size, 5, none⟩ = some (.int .i64 t.r2) ∧ w'.cell? ⟨w.heap.size, 6, none⟩ = some (.string ⟨t.word.toArray⟩) ∧ w'.cell? ⟨w.heap.size, 7, none⟩ = some (.slice A t.kids.length ca)) := Lib.hid fun w' hb => (parT hb).1
  have HFi := Lib.hid (fun w' (hb : Below (w.heap.size + 1) (w.alloc (.cells #[.int .i64 t.kind, .int .i64 t.num, .int .i64 t.c1, .int .i64 t.r1, .int .i64 t.c2, .int .i64 t.r2, .string ⟨t.word.toArray⟩, .slice A t.kids.length ca] 29)) w') => lfits_any t hg.wid w' A ca ((hA.below (HK.out w' hb)).kv))
  have HAl := Lib.hid (fun w' (hb : Below (w.heap.size + 1) (w.alloc (.cells #[.int .i64 t.kind, .int .i64 t.num, .int .i64 t.c1, .int .i64 t.r1, .int .i64 t.c2, .int .i64 t.r2, .string ⟨t.word.toArray⟩, .slice A t.kids.length ca] 29)) w') => malive w' (B := B) (Nat.le_trans hSB (HK.out w' hb).size) (hSt.later hSB (HK.out w' hb)))
  have hkl : ((kpM l).map kN).length ≤ 300 ∧ ((kpM l).map cA).length ≤ 300 ∧ ((kpM l).map cB).length ≤ 300 := by
    have := kp_len l []
    rw [List.length_nil] at this
    rw [List.length_map, List.length_map, List.length_map]
    have h : (kpM l).length ≤ 300 := by show (l.foldl stepM []).length ≤ 300; omega
    exact ⟨h, h, h⟩
  have hpl : ∀ q ∈ (kpM l).map kN, B64 q.c ∧ B64 q.r := fun q hq => by
    obtain ⟨p, hp, rfl⟩ := List.mem_map.1 hq
    have := kp_ok hg.ok p hp
    exact ⟨this.1, this.2.1⟩
  have hba : ∀ q ∈ (kpM l).map cA, B64 q.n := fun q hq => by
    obtain ⟨p, hp, rfl⟩ := List.mem_map.1 hq
    exact (kp_ok hg.ok p hp).2.2.2.1
  have hbb : ∀ q ∈ (kpM l).map cB, B64 q.n := fun q hq => by
    obtain ⟨p, hp, rfl⟩ := List.mem_map.1 hq
    exact to_b (kp_ok hg.ok p hp)
  have HCe := Lib.hid (fun w' (hb : Below (w.heap.size + 1) (w.alloc (.cells #[.int .i64 t.kind, .int .i64 t.num, .int .i64 t.c1, .int .i64 t.r1, .int .i64 t.c2, .int .i64 t.r2, .string ⟨t.word.toArray⟩, .slice A t.kids.length ca] 29)) w') => lcells_any l (by omega) hg.ok LA lc w' (hc.below (HK.out w' hb)))
  have HE : Hid (∀ w' D dc, ListK w' D ((kpM l).map kN) → Below (w.heap.size + 1) (w.alloc (.cells #[.int .i64 t.kind, .int .i64 t.num, .int .i64 t.c1, .int .i64 t.r1, .int .i64 t.c2, .int .i64 t.r2, .string ⟨t.word.toArray⟩, .slice A t.kids.length ca] 29)) w' → Calls Tryd.prog 7 #[tv t A ca, .slice D (kpM l).length dc] w' fun e w2 => e = .returned (.int .i64 (owV ((kpM l).map kN) t)) ∧ Below w'.heap.size w' w2) := Lib.hid fun w' D dc hD hb => by
    have h := mOf_any (l := (kpM l).map kN) (by have := hkl.1; unfold maxLen; omega) hpl t hg.wid hg.fit (fits_cnt hf) w' A ca D dc (hA.below (HK.out w' hb)) hD (S := B) (Nat.le_trans hSB (HK.out w' hb).size) (hSt.later hSB (HK.out w' hb))
    rw [List.length_map] at h
    exact h
  have HRf : Hid (∀ (C : List Cel), C.length = (kpM l).length → (∀ q ∈ C, B64 q.n) → ∀ w' D dc, ListC w' D C → Below (w.heap.size + 1) (w.alloc (.cells #[.int .i64 t.kind, .int .i64 t.num, .int .i64 t.c1, .int .i64 t.r1, .int .i64 t.c2, .int .i64 t.r2, .string ⟨t.word.toArray⟩, .slice A t.kids.length ca] 29)) w' → Calls Tryd.prog 15 #[tv t A ca, .slice D (kpM l).length dc] w' fun e w2 => e = .returned (.agg #[.int .i64 (ofV C t).1, .int .i64 (ofV C t).2]) ∧ Below w'.heap.size w' w2) := Lib.hid fun C hC hCb w' D dc hD hb => by
    have hl3 : C.length ≤ maxLen := by have := hkl.2.1; rw [List.length_map] at this; unfold maxLen; omega
    have h := rOf_any (l := C) hl3 hCb t hg.wid hg.fit (fits_cnt hf) (Nat.le_trans (fits_deep hf) (by decide)) w' A ca D dc ((hA.below (HK.out w' hb)).kv) hD
    rw [hC] at h
    exact h
  have HR1 := Lib.hid (HRf.out ((kpM l).map cA) (List.length_map _) hba)
  have HR2 := Lib.hid (HRf.out ((kpM l).map cB) (List.length_map _) hbb)
  have HH := Lib.hid (holds_any hg.ok t)
  have hJ := ok_ow ((kpM l).map kN) t
  have hlen := hg.wid.len
  unfold maxLen at hlen
  have hd : decide ((300 : Int) < (l.length : Int)) = false := decide_eq_false (by omega)
  rw [hf] at HFi
  unfold tv at *
  have hk300 := hkl.1
  rw [List.length_map] at hk300
  clear hA hc hSB hSt hg hf hkl hpl hba hbb HRf
  generalize owV ((kpM l).map kN) t = J at *
  generalize hX : ofV ((kpM l).map cA) t = X at *
  generalize hY : ofV ((kpM l).map cB) t = Y at *
  obtain ⟨X1, X2⟩ := X
  obtain ⟨Y1, Y2⟩ := Y
  simp only at HR1 HR2 HH
  clear hX hY
  generalize (kpM l).map cA = CA at *
  generalize (kpM l).map cB = CB at *
  generalize (kpM l).map kN = CK at *
  generalize (kpM l).length = n at *
  have HF3 : Hid ((X2 = 0 ∧ Y2 = 0) → Goes J X1 Y1) := Lib.hid fun h => HH.out h.1 h.2
  clear HH
  go_enter Tryd.func4, Tryd.ntmps4
  go_wp2_with fail
  refine Calls.mono (HFi.out _ HB0.out) ?_; rintro e w1 ⟨rfl, b1⟩
  have HB1 := Lib.hid (HB0.out.trans (b1.mono (by simp)))
  clear b1 HFi HB0
  go_wp2_with fail
  refine Calls.mono (HCe.out _ HB1.out) ?_; rintro e w2 ⟨D1, d1, D2, d2, D3, d3, rfl, hD1, hD2, hD3, b2⟩
  have HB2 := Lib.hid (HB1.out.trans (b2.mono (by have := HB1.out.size; simpa using this)))
  have HD1 := Lib.hid hD1
  have HD2 := Lib.hid hD2
  have HD3 := Lib.hid hD3
  clear b2 hD1 hD2 hD3 HCe
  obtain ⟨k0, k1, k2, k3, k4, k5, k6, k7⟩ := HL.out _ HB2.out
  go_wp2_with fail
  refine Calls.mono (HE.out _ _ _ HD3.out HB2.out) ?_; rintro e w3 ⟨rfl, b3⟩
  have HB3 := Lib.hid (HB2.out.trans (b3.mono (by have := HB2.out.size; simpa using this)))
  have HE1 := Lib.hid (ListC.below HD1.out b3)
  have HE2 := Lib.hid (ListC.below HD2.out b3)
  clear b3 HD1 HD2 HD3 HE k0 k1 k2 k3 k4 k5 k6 k7
  obtain ⟨k0, k1, k2, k3, k4, k5, k6, k7⟩ := HL.out _ HB3.out
  go_wp2_with fail
  refine Calls.mono (HR1.out _ _ _ HE1.out HB3.out) ?_; rintro e w4 ⟨rfl, b4⟩
  have HB4 := Lib.hid (HB3.out.trans (b4.mono (by have := HB3.out.size; simpa using this)))
  have hb5 := b4.alloc b4.size (.cells #[.int .i64 X1, .int .i64 X2] 53)
  have HB5 := Lib.hid (HB3.out.trans (hb5.mono (by have := HB3.out.size; simpa using this)))
  have HE5 := Lib.hid (ListC.below HE2.out hb5)
  have HV5 := Lib.hid (VB.new w4 X1 X2)
  have HZ4 := Lib.hid (show w4.heap.size < (w4.alloc (.cells #[.int .i64 X1, .int .i64 X2] 53)).heap.size by simp)
  clear b4 hb5 HE1 HE2 HR1 k0 k1 k2 k3 k4 k5 k6 k7 HB3 HB4
  obtain ⟨k0, k1, k2, k3, k4, k5, k6, k7⟩ := HL.out _ HB5.out
  go_wp2_with fail
  refine Calls.mono (HR2.out _ _ _ HE5.out HB5.out) ?_; rintro e w6 ⟨rfl, b6⟩
  have hb7 := b6.alloc b6.size (.cells #[.int .i64 Y1, .int .i64 Y2] 53)
  have HB7 := Lib.hid (HB5.out.trans (hb7.mono (by have := HB5.out.size; simpa using this)))
  have HV1 := Lib.hid (HV5.out.below hb7)
  have HV2 := Lib.hid (VB.new w6 Y1 Y2)
  have n46 : w4.heap.size ≠ w6.heap.size := by have := b6.size; simp at this; omega
  have HAl7 := Lib.hid (HAl.out _ HB7.out)
  clear b6 hb7 HE5 HV5 HZ4 HR2 k0 k1 k2 k3 k4 k5 k6 k7 HB5
  obtain ⟨g0, g1⟩ := HV1.out
  obtain ⟨j0, j1⟩ := HV2.out
  have HVV : Hid (∀ w', Below (w6.alloc (.cells #[.int .i64 Y1, .int .i64 Y2] 53)).heap.size (w6.alloc (.cells #[.int .i64 Y1, .int .i64 Y2] 53)) w' → (VB w' w4.heap.size X1 X2 ∧ VB w' w6.heap.size Y1 Y2) ∧ Below w.heap.size w w') := Lib.hid fun w' hb => ⟨⟨HV1.out.below hb, HV2.out.below hb⟩, HK.out _ (HB7.out.trans (hb.mono (by have := HB7.out.size; simpa using this)))⟩
  clear HV1 HV2 HK HL HAl HB7 HB2 HB1
  by_cases hx : X2 = 0
  · by_cases hy : Y2 = 0
    · have hg := HF3.out ⟨hx, hy⟩
      subst hx hy
      rcases hJ with rfl | rfl | rfl | rfl
      · have hq := hg.1 rfl
        subst hq
        clear hg HF3
        go_wp2_with fail
        refine Calls.mono HAl7.out ?_; rintro e w8 ⟨rfl, b8⟩
        obtain ⟨⟨⟨x0, x1⟩, y0, y1⟩, hb⟩ := HVV.out _ b8
        have HR := Lib.hid hb
        clear hb b8 g0 g1 j0 j1 HVV HAl7
        go_wp2_with fail
        go_ret
        exact ⟨rfl, HR.out⟩
      · have hq := hg.2.1 rfl
        clear hg HF3
        go_wp2_with fail
        refine Calls.mono HAl7.out ?_; rintro e w8 ⟨rfl, b8⟩
        obtain ⟨⟨⟨x0, x1⟩, y0, y1⟩, hb⟩ := HVV.out _ b8
        have HR := Lib.hid hb
        have hq2 : decide (X1 ≤ Y1) = true := decide_eq_true hq
        clear hb b8 g0 g1 j0 j1 HVV HAl7
        go_wp2_with fail
        go_ret
        exact ⟨rfl, HR.out⟩
      · have hq := hg.2.2 rfl
        clear hg HF3
        go_wp2_with fail
        refine Calls.mono HAl7.out ?_; rintro e w8 ⟨rfl, b8⟩
        obtain ⟨⟨⟨x0, x1⟩, y0, y1⟩, hb⟩ := HVV.out _ b8
        have HR := Lib.hid hb
        have hq2 : decide (Y1 ≤ X1) = true := decide_eq_true hq
        clear hb b8 g0 g1 j0 j1 HVV HAl7
        go_wp2_with fail
        go_ret
        exact ⟨rfl, HR.out⟩
      · clear hg HF3
        go_wp2_with fail
        refine Calls.mono HAl7.out ?_; rintro e w8 ⟨rfl, b8⟩
        have HR := Lib.hid (HVV.out _ b8).2
        clear b8 g0 g1 j0 j1 HVV HAl7
        go_wp2_with fail
        go_ret
        exact ⟨rfl, HR.out⟩
    · subst hx
      have hy2 : (Y2 != 0) = true := by simpa using hy
      clear hy HF3
      go_wp2_with fail
      refine Calls.mono HAl7.out ?_; rintro e w8 ⟨rfl, b8⟩
      have HR := Lib.hid (HVV.out _ b8).2
      clear b8 g0 g1 j0 j1 HVV HAl7
      go_wp2_with fail
      go_ret
      exact ⟨rfl, HR.out⟩
  · have hx2 : (X2 != 0) = true := by simpa using hx
    clear hx HF3
    go_wp2_with fail
    refine Calls.mono HAl7.out ?_; rintro e w8 ⟨rfl, b8⟩
    have HR := Lib.hid (HVV.out _ b8).2
    clear b8 g0 g1 j0 j1 HVV HAl7
    go_wp2_with fail
    go_ret
    exact ⟨rfl, HR.out⟩
theorem moholds_any (t : Tr) (l : List Mov) (hg : GM t l) (w : World) (A : Option Addr) (ca : Nat) (LA : Option Addr) (lc : Nat) (hA : KVc w (fun _ => True) t A ca) (hc : ListM w LA l) {B : Nat} (hSB : B ≤ w.heap.size) (hSt : Strs B B w) :
    Calls Tryd.prog 4 #[tv t A ca, .slice LA l.length lc] w fun e w' => e = .returned (.bool true) ∧ Below w.heap.size w w' := by
  by_cases hf : fitsB t = true
  · by_cases hn : 300 < l.length
    · exact moholds_no t l hg w A ca LA lc hA hc hSB hSt (.inr hn)
    · exact moholds_yes t l hg w A ca LA lc hA hc hSB hSt hf hn
  · exact moholds_no t l hg w A ca LA lc hA hc hSB hSt (.inl (by simpa using hf))
end Go.Proofs.YthaoalmhhgllmaaDoor
