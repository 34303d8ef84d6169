/- Texts joined: NdU, NdS, NdL, NdV, NfY, OpN, OpO, NdW, NdX, NdY. -/
import Derived.Test.YtbjbbpbagnlkmaaDoorMs07
import Derived.Test.YtbjbbpbagnlkmaaDoorMs05
import Derived.Test.YtbjbbpbagnlkmaaDoorMs02
import Derived.Test.YtbjbbpbagnlkmaaDoorMs01
import Derived.Test.YtbjbbpbagnlkmaaDoorMs06
set_option linter.all false
namespace Go.Proofs.YtbjbbpbagnlkmaaDoor
open Go.RowKit
def FitsR (l : List AcM) (w : World) (e : Ending) (w' : World) : Prop := ∃ b, e = .returned (.bool b) ∧ (b = true → l.length ≤ 200 ∧ ∀ q ∈ l, FitA q) ∧ Below w.heap.size w w'
theorem FitsR.no {l : List AcM} {w : World} {e : Ending} {w' : World} (h : e = .returned (.bool false)) (hb : Below w.heap.size w w') : FitsR l w e w' := ⟨false, h, fun e => (by cases e), hb⟩
theorem FitsR.yes {l : List AcM} {w : World} {e : Ending} {w' : World} (h : e = .returned (.bool true)) (hf : l.length ≤ 200 ∧ ∀ q ∈ l, FitA q) (hb : Below w.heap.size w w') : FitsR l w e w' := ⟨true, h, fun _ => hf, hb⟩
section
variable {w w' : World} {P Q : Nat → Prop}
set_option maxHeartbeats 8000000 in
set_option maxRecDepth 10000 in
theorem lfits_any (l : List AcM) (A : Option Addr) (ca : Nat) (w : World) (hl : RowA w Q A l) (hll : l.length ≤ maxLen) (hlm : ∀ q ∈ l, q.roots.length ≤ maxLen ∧ q.L.length ≤ maxLen ∧ ∀ n ∈ q.L, n.refs.length ≤ maxLen ∧ n.nums.length ≤ maxLen ∧ n.text.length ≤ maxLen) :
    Calls Tryd.prog 5 #[.slice A l.length ca] w fun e w' => FitsR l w e w' := by
  have HL := Lib.hid hl
  have HM := Lib.hid hlm
  unfold maxLen at hll
  clear hl hlm
  by_cases hbig : 200 < l.length
  · have hd : decide ((200 : Int) < (l.length : Int)) = true := decide_eq_true (by omega)
    go_enter Tryd.func5, Tryd.ntmps5
    go_wp2_with fail
    go_ret
    exact FitsR.no rfl (Below.refl _ _)
  · have hd : decide ((200 : Int) < (l.length : Int)) = false := decide_eq_false (by omega)
    have hl2 : l.length ≤ 200 := by omega
    go_enter Tryd.func5, Tryd.ntmps5
    go_wp2_with fail
    go_loopw [3, 4, 5, 6, 7] (fun vn vb vi _ _ wr => ∃ (i : Nat) (n b : Int), i ≤ l.length ∧ vi = .int .i64 (i : Int) ∧ vn = .int .i64 n ∧ vb = .int .i64 b ∧ (0 ≤ n ∧ n ≤ 2000 + 200 * i) ∧ (0 ≤ b ∧ b ≤ 5000) ∧ Hid (∀ q ∈ l.take i, FitA q) ∧ Below w.heap.size w wr) (fun _ _ vi _ _ _ => l.length - (RowKit.intOf vi).toNat)
    case atStart => exact ⟨0, 0, 0, Nat.zero_le _, rfl, rfl, rfl, ⟨by omega, by omega⟩, ⟨by omega, by omega⟩, Lib.hid (fun q hq => by rw [List.take_zero] at hq; cases hq), Below.refl _ _⟩
    case round =>
      obtain ⟨i, n, b, hi, rfl, rfl, rfl, ⟨n0, n1⟩, ⟨b0, b1⟩, HT, hb⟩ := hrel
      by_cases hlt : i < l.length
      · obtain ⟨g, o, rfl, _, hgl, hat⟩ := (HL.out.below hb).at hlt
        obtain ⟨q, hq⟩ : ∃ q, l[i]? = some q := ⟨_, List.getElem?_eq_getElem hlt⟩
        obtain ⟨⟨c0, c1, c2⟩, hN, _⟩ := hat i q hq
        obtain ⟨m1, m2, m3⟩ := HM.out q (List.mem_of_getElem? hq)
        have Hm3 := Lib.hid m3
        have HN := Lib.hid hN
        have HNx := Lib.hid (fun h => mem_take_next hq HT.out h)
        unfold maxLen at m1 m2
        clear hat hq hN m3
        cases hd1 : decide ((200 : Int) < (q.roots.length : Int)) with
        | true =>
          go_wp2_with fail
          go_ret
          exact FitsR.no rfl hb
        | false =>
          have e1 := of_decide_eq_false hd1
          cases hd2 : decide ((200 : Int) < (q.L.length : Int)) with
          | true =>
            go_wp2_with fail
            go_ret
            exact FitsR.no rfl hb
          | false =>
            have e2 := of_decide_eq_false hd2
            have HC := Lib.hid (And.intro c1 hgl)
            have hbs := hb.size
            go_wp2_with fail
            generalize wr = wq at *
            go_loopw [3, 4, 6, 7] (fun vn vb vk _ wr2 => ∃ (k : Nat) (n b : Int), k ≤ q.L.length ∧ vk = .int .i64 (k : Int) ∧ vn = .int .i64 n ∧ vb = .int .i64 b ∧ (0 ≤ n ∧ n ≤ 2000 + 200 * (i + 1)) ∧ (0 ≤ b ∧ b ≤ 5000) ∧ Hid (∀ n ∈ q.L.take k, FitN n) ∧ Below wq.heap.size wq wr2) (fun _ _ vk _ _ => q.L.length - (RowKit.intOf vk).toNat)
            case atStart => exact ⟨0, _, _, Nat.zero_le _, rfl, rfl, rfl, ⟨by omega, by omega⟩, ⟨b0, b1⟩, Lib.hid (fun x hx => by rw [List.take_zero] at hx; cases hx), Below.refl _ _⟩
            case round =>
              obtain ⟨k, n', b', hk, rfl, rfl, rfl, ⟨n0', n1'⟩, ⟨b0', b1'⟩, HT', hb'⟩ := hrel
              have c1' := keep_cell hb' HC.out.1
              have hil : (i : Int) < (l.length : Int) := by omega
              by_cases hkl : k < q.L.length
              · obtain ⟨g2, o2, hLA, _, _, hat2⟩ := (HN.out.below hb').at hkl
                obtain ⟨x, hx⟩ : ∃ x, q.L[k]? = some x := ⟨_, List.getElem?_eq_getElem hkl⟩
                obtain ⟨B, cb, C, cc, ⟨q0, q1, q2, q3⟩, _, _⟩ := hat2 k x hx
                obtain ⟨x1, x2, x3⟩ := Hm3.out x (List.mem_of_getElem? hx)
                have HNx2 := Lib.hid (fun h => mem_take_next hx HT'.out h)
                have hkI : (k : Int) < (q.L.length : Int) := by omega
                have hb2 : Below w.heap.size w wr := hb.trans (hb'.mono hbs)
                have hbA : ∀ (o : Obj), Below wq.heap.size wq (wr.alloc o) := fun o => hb'.alloc hb'.size o
                have HbA := Lib.hid hbA
                unfold maxLen at x1 x2 x3
                rw [hLA] at c1'
                clear hat2 hx hbA
                clear hLA
                have hbx : Below wq.heap.size wq (wr.alloc (.cells #[.int .i64 x.kind, .slice B x.refs.length cb, .slice C x.nums.length cc, .string ⟨x.text.toArray⟩] 40)) := HbA.out _
                have HBx := Lib.hid hbx
                have HBw : Hid (Below w.heap.size w (wr.alloc (.cells #[.int .i64 x.kind, .slice B x.refs.length cb, .slice C x.nums.length cc, .string ⟨x.text.toArray⟩] 40))) := Lib.hid (hb2.alloc hb2.size _)
                clear hbx hb2
                cases hd3 : decide ((200 : Int) < (x.refs.length : Int)) with
                | true =>
                  go_wp2_with fail
                  go_ret
                  exact FitsR.no rfl HBw.out
                | false =>
                  have e3 := of_decide_eq_false hd3
                  cases hd4 : decide ((200 : Int) < (x.nums.length : Int)) with
                  | true =>
                    go_wp2_with fail
                    go_ret
                    exact FitsR.no rfl HBw.out
                  | false =>
                    have e4 := of_decide_eq_false hd4
                    cases hd5 : decide ((5000 : Int) < (x.text.length : Int)) with
                    | true =>
                      go_wp2_with fail
                      go_ret
                      exact FitsR.no rfl HBw.out
                    | false =>
                      have e5 := of_decide_eq_false hd5
                      have HF2 := Lib.hid (HNx2.out ⟨by omega, by omega, by omega⟩)
                      cases hd6 : decide ((2000 : Int) < n' + (x.refs.length : Int) + (x.nums.length : Int)) with
                      | true =>
                        go_wp2_with fail
                        go_ret
                        exact FitsR.no rfl HBw.out
                      | false =>
                        have e6 := of_decide_eq_false hd6
                        cases hd7 : decide ((5000 : Int) < b' + (x.text.length : Int)) with
                        | true =>
                          go_wp2_with fail
                          go_ret
                          exact FitsR.no rfl HBw.out
                        | false =>
                          have e7 := of_decide_eq_false hd7
                          go_wp2_with fail
                          go_roundw
                          case rel => exact ⟨k + 1, _, _, by omega, by go_num, rfl, rfl, ⟨by omega, by omega⟩, ⟨by omega, by omega⟩, HF2, HBx.out⟩
                          case measure => simp [RowKit.intOf]; omega
              · have hkk : k = q.L.length := by omega
                subst hkk
                have HF := Lib.hid (HNx.out ⟨by omega, by omega, by have := HT'.out; rwa [List.take_length] at this⟩)
                go_wp2_with fail
                go_roundw
                case rel => exact ⟨i + 1, n', b', by omega, by go_num, rfl, rfl, ⟨n0', by omega⟩, ⟨b0', b1'⟩, HF, hb.trans (hb'.mono hbs)⟩
                case measure => simp [RowKit.intOf]; omega
      · have hii : i = l.length := by omega
        subst hii
        have HF := Lib.hid (show ∀ q ∈ l, FitA q by have := HT.out; rwa [List.take_length] at this)
        go_wp2_with fail
        go_ret
        exact FitsR.yes rfl ⟨hl2, HF.out⟩ hb
end
end Go.Proofs.YtbjbbpbagnlkmaaDoor
namespace Go.Proofs.YtbjbbpbagnlkmaaDoor
open Go.RowKit
theorem heap3 (w : World) (A B C : Obj) : (((w.alloc A).alloc B).alloc C).heap[w.heap.size]? = some A ∧ (((w.alloc A).alloc B).alloc C).heap[w.heap.size + 1]? = some B ∧ (((w.alloc A).alloc B).alloc C).heap[w.heap.size + 1 + 1]? = some C := by
  refine ⟨?_, ?_, ?_⟩
  · rw [Below.heap_alloc _ C _ (by simp; omega)]; exact heapA_old w A B
  · rw [Below.heap_alloc _ C _ (by simp)]; exact heapA_new w A B
  · have := (MapKept.heap_alloc ((w.alloc A).alloc B) C).1
    simpa using this
end Go.Proofs.YtbjbbpbagnlkmaaDoor
namespace Go.Proofs.YtbjbbpbagnlkmaaDoor
open Go.RowKit
set_option maxHeartbeats 4000000 in
set_option maxRecDepth 10000 in
theorem lndsame_any (x y : Nd) (A B C D : Option Addr) (ca cb cc cd : Nat) (w : World) (P Q : Nat → Prop) (hA : RowI w P A x.refs) (hB : RowI w P B x.nums) (hC : RowI w Q C y.refs) (hD : RowI w Q D y.nums)
    (h1 : x.refs.length ≤ maxLen) (h2 : x.nums.length ≤ maxLen) :
    Calls Tryd.prog 17 #[ndV x A ca B cb, ndV y C cc D cd] w fun e w' => e = .returned (.bool (decide (x = y))) ∧ Below w.heap.size w w' := by
  have HI1 := Lib.hid (fun w' (hb : Below w.heap.size w w') => rInts_any x.refs y.refs A C ca cc w' P Q (hA.below hb) (hC.below hb) h1)
  have HI2 := Lib.hid (fun w' (hb : Below w.heap.size w w') => rInts_any x.nums y.nums B D cb cd w' P Q (hB.below hb) (hD.below hb) h2)
  have HD := Lib.hid (same_dec x y)
  have hK := Lib.hid (Eq.refl (x.kind == y.kind))
  clear hA hB hC hD h1 h2
  unfold ndV
  have hb0 : Below w.heap.size w ((w.alloc (.cells #[.int .i64 x.kind, .slice A x.refs.length ca, .slice B x.nums.length cb, .string ⟨x.text.toArray⟩] 40)).alloc (.cells #[.int .i64 y.kind, .slice C y.refs.length cc, .slice D y.nums.length cd, .string ⟨y.text.toArray⟩] 43)) := ((Below.refl _ _).alloc (Nat.le_refl _) _).alloc (by simp) _
  generalize decide (x = y) = DD at *
  generalize decide (x.refs = y.refs) = R at *
  generalize decide (x.nums = y.nums) = N at *
  have HB0 := Lib.hid hb0
  clear hb0
  cases hk : x.kind == y.kind
  · rw [hk] at HD
    go_enter Tryd.func17, Tryd.ntmps17
    go_wp2_with fail
    go_ret
    exact ⟨by rw [HD.out]; rfl, HB0.out⟩
  · cases ht : x.text == y.text
    · rw [hk, ht] at HD
      go_enter Tryd.func17, Tryd.ntmps17
      go_wp2_with fail
      go_ret
      exact ⟨by rw [HD.out]; rfl, HB0.out⟩
    · rw [hk, ht] at HD
      cases R with
      | false =>
        go_enter Tryd.func17, Tryd.ntmps17
        go_wp2_with fail
        refine (HI1.out _ HB0.out).mono ?_; rintro e w1 ⟨rfl, b1⟩
        have HB1 := Lib.hid (HB0.out.trans (b1.mono (by simp; omega)))
        clear b1
        go_wp2_with fail
        go_ret
        exact ⟨by rw [HD.out]; rfl, HB1.out⟩
      | true =>
        go_enter Tryd.func17, Tryd.ntmps17
        go_wp2_with fail
        refine (HI1.out _ HB0.out).mono ?_; rintro e w1 ⟨rfl, b1⟩
        have HB1 := Lib.hid (HB0.out.trans (b1.mono (by simp; omega)))
        have p0 : w1.cell? ⟨w.heap.size, 2, none⟩ = some (.slice B x.nums.length cb) := by rw [b1.cell (by simp; omega)]; simp [go_sem]
        have p1 : w1.cell? ⟨w.heap.size + 1, 2, none⟩ = some (.slice D y.nums.length cd) := by rw [b1.cell (by simp)]; simp [go_sem]
        clear b1
        go_wp2_with fail
        refine (HI2.out _ HB1.out).mono ?_; rintro e w2 ⟨rfl, b2⟩
        have HB2 := Lib.hid (HB1.out.trans (b2.mono (HB1.out.size)))
        clear b2
        go_wp2_with fail
        go_ret
        exact ⟨by rw [HD.out]; rfl, HB2.out⟩
end Go.Proofs.YtbjbbpbagnlkmaaDoor
namespace Go.Proofs.YtbjbbpbagnlkmaaDoor
open Go.RowKit
def FitB (n : Nd) : Prop := FitN n ∧ B64s n.refs ∧ B64s n.nums ∧ -9223372036854775808 ≤ n.kind ∧ n.kind ≤ 9223372036854775807
def After (AP : World → (Nat → Prop) → Nat → Nat → Sh → Prop) (w : World) (F : Nat → Prop) (a room : Nat) (s : Sh) (w' : World) (F' : Nat → Prop) : Prop := AP w' F' a room s ∧ (∀ g, F' g → F g ∨ w.heap.size ≤ g) ∧ ButS F w w'
structure AC (B : Nat) (EV : World → Prop) (AP : World → (Nat → Prop) → Nat → Nat → Sh → Prop) : Prop where
  on : ∀ {w w' : World}, EV w → Below B w w' → EV w'
  kept : ∀ {w w' : World} {F : Nat → Prop} {a room : Nat} {s : Sh}, AP w F a room s → Kept w w' F → Below B w w' → AP w' F a room s
  mono : ∀ {w : World} {F G : Nat → Prop} {a room : Nat} {s : Sh}, AP w F a room s → (∀ g, F g → g < w.heap.size → G g) → AP w G a room s
  new : ∀ (w : World) (r : Int), EV w → B ≤ w.heap.size → Calls Tryd.prog 7 #[.int .i64 r] w fun e w' => (0 ≤ r ∧ r ≤ 65536 → ∃ a, e = .returned (.tuple #[.pointer (some ⟨a, 0, none⟩), .int .i64 0]) ∧ AP w' (fun g => w.heap.size ≤ g) a r.toNat []) ∧ (¬ (0 ≤ r ∧ r ≤ 65536) → e = .returned (.tuple #[.pointer none, .int .i64 1])) ∧ Below w.heap.size w w'
  put : ∀ {w : World} {F Q : Nat → Prop} {a room : Nat} {s : Sh}, AP w F a room s → Inv room s → ∀ (l : List Nd) (A : Option Addr) (ca : Nat), RowN w Q A l → (∀ g, Q g → ¬ F g) → l.length ≤ 200 → (∀ n ∈ l, FitB n) →
    Calls Tryd.prog 18 #[.pointer (some ⟨a, 0, none⟩), .slice A l.length ca] w fun e w' => ∃ O co, e = .returned (.tuple #[.slice O (putA room s l).2.1.length co, .int .i64 ((putA room s l).2.2 : Int)]) ∧ ∃ F', RowI w' (fun g => w.heap.size ≤ g ∧ ¬ F' g) O (putA room s l).2.1 ∧ After AP w F a room (putA room s l).1 w' F'
  sweep : ∀ {w : World} {F Q : Nat → Prop} {a room : Nat} {s : Sh}, AP w F a room s → Inv room s → ∀ (l : List Int) (A : Option Addr) (ca : Nat), RowI w Q A l → (∀ g, Q g → ¬ F g) → l.length ≤ 1000 → B64s l →
    Calls Tryd.prog 19 #[.pointer (some ⟨a, 0, none⟩), .slice A l.length ca] w fun e w' => e = .returned (.tuple #[.int .i64 ((sweepA s l).2.1 : Int), .int .i64 ((sweepA s l).2.2 : Int)]) ∧ ∃ F', After AP w F a room (sweepA s l).1 w' F'
  reach : ∀ {w : World} {F Q : Nat → Prop} {a room : Nat} {s : Sh}, AP w F a room s → Inv room s → ∀ (l : List Int) (A : Option Addr) (ca : Nat), RowI w Q A l → (∀ g, Q g → ¬ F g) → l.length ≤ 1000 → B64s l →
    Calls Tryd.prog 20 #[.pointer (some ⟨a, 0, none⟩), .slice A l.length ca] w fun e w' => ∃ O co, e = .returned (.slice O (reachA s l).length co) ∧ ∃ F', RowI w' (fun g => w.heap.size ≤ g ∧ ¬ F' g) O (reachA s l) ∧ After AP w F a room s w' F'
  get : ∀ {w : World} {F : Nat → Prop} {a room : Nat} {s : Sh}, AP w F a room s → Inv room s → ∀ (h : Int), -9223372036854775808 ≤ h ∧ h ≤ 9223372036854775807 →
    Calls Tryd.prog 15 #[.pointer (some ⟨a, 0, none⟩), .int .i64 h] w fun e w' => ∃ A ca B cb, e = .returned (.tuple #[ndV (getN s h) A ca B cb, .int .i64 (getE s h)]) ∧ ∃ F', RowI w' (fun g => w.heap.size ≤ g ∧ ¬ F' g) A (getN s h).refs ∧ RowI w' (fun g => w.heap.size ≤ g ∧ ¬ F' g) B (getN s h).nums ∧ After AP w F a room s w' F'
  live : ∀ {w : World} {F : Nat → Prop} {a room : Nat} {s : Sh}, AP w F a room s → Inv room s →
    Calls Tryd.prog 11 #[.pointer (some ⟨a, 0, none⟩)] w fun e w' => ∃ O co, e = .returned (.slice O (liveA s).length co) ∧ ∃ F', RowI w' (fun g => w.heap.size ≤ g ∧ ¬ F' g) O (liveA s) ∧ After AP w F a room s w' F'
  size : ∀ {w : World} {F : Nat → Prop} {a room : Nat} {s : Sh}, AP w F a room s → Inv room s →
    Calls Tryd.prog 13 #[.pointer (some ⟨a, 0, none⟩)] w fun e w' => e = .returned (.int .i64 ((liveA s).length : Int)) ∧ ∃ F', After AP w F a room s w' F'
  room : ∀ {w : World} {F : Nat → Prop} {a room : Nat} {s : Sh}, AP w F a room s → Inv room s →
    Calls Tryd.prog 14 #[.pointer (some ⟨a, 0, none⟩)] w fun e w' => e = .returned (.int .i64 (room : Int)) ∧ ∃ F', After AP w F a room s w' F'
  wide : ∀ {w : World} {F : Nat → Prop} {a room : Nat} {s : Sh}, AP w F a room s → room ≤ 65536
  fits : ∀ {w : World} {F : Nat → Prop} {a room : Nat} {s : Sh}, AP w F a room s → ∀ h n, ndAt s h = some n → n.refs.length ≤ 1000000 ∧ n.nums.length ≤ 1000000
  nPut : ∀ (w : World), Calls Tryd.prog 18 #[.pointer none, .slice none 0 0] w fun e w' => e = .returned (.tuple #[.slice none 0 0, .int .i64 1]) ∧ Below w.heap.size w w'
  nSweep : ∀ (w : World), Calls Tryd.prog 19 #[.pointer none, .slice none 0 0] w fun e w' => e = .returned (.tuple #[.int .i64 0, .int .i64 1]) ∧ Below w.heap.size w w'
  nGet : ∀ (w : World) (h : Int), Calls Tryd.prog 15 #[.pointer none, .int .i64 h] w fun e w' => ∃ n, e = .returned (.tuple #[ndV n none 0 none 0, .int .i64 1]) ∧ Below w.heap.size w w'
  nLive : ∀ (w : World), Calls Tryd.prog 11 #[.pointer none] w fun e w' => (∃ O co, e = .returned (.slice O 0 co)) ∧ Below w.heap.size w w'
  nReach : ∀ (w : World) (A : Option Addr) (n ca : Nat), Calls Tryd.prog 20 #[.pointer none, .slice A n ca] w fun e w' => (∃ O co, e = .returned (.slice O 0 co)) ∧ Below w.heap.size w w'
  nLen : ∀ (w : World), Calls Tryd.prog 13 #[.pointer none] w fun e w' => e = .returned (.int .i64 0) ∧ Below w.heap.size w w'
  nRoom : ∀ (w : World), Calls Tryd.prog 14 #[.pointer none] w fun e w' => e = .returned (.int .i64 0) ∧ Below w.heap.size w w'
theorem AC.up {B B' : Nat} {EV : World → Prop} {AP : World → (Nat → Prop) → Nat → Nat → Sh → Prop} (h : AC B EV AP) (hb : B ≤ B') : AC B' EV AP :=
  { h with on := fun he hw => h.on he (hw.mono hb), kept := fun ha hk hw => h.kept ha hk (hw.mono hb), new := fun w r he hs => h.new w r he (Nat.le_trans hb hs) }
structure Sep (B n : Nat) (F P : Nat → Prop) : Prop where
  apart : ∀ g, F g → ¬ P g
  left : ∀ g, F g → B ≤ g ∧ g < n
  right : ∀ g, P g → B ≤ g ∧ g < n
  base : B ≤ n
theorem Sep.up {B n n' : Nat} {F P : Nat → Prop} (h : Sep B n F P) (hn : n ≤ n') : Sep B n' F P := ⟨h.apart, fun g hg => by have := h.left g hg; omega, fun g hg => by have := h.right g hg; omega, Nat.le_trans h.base hn⟩
end Go.Proofs.YtbjbbpbagnlkmaaDoor
namespace Go.Proofs.YtbjbbpbagnlkmaaDoor
open Go.RowKit Go.Maps
def TB (B : Nat) (w : World) : Prop := ∀ w', Below B w w' → TabE w'
theorem TB.on {B : Nat} {w w' : World} (h : TB B w) (hb : Below B w w') : TB B w' := fun w'' h' => h w'' (hb.trans h')
def AP9 (B : Nat) (w : World) (F : Nat → Prop) (a room : Nat) (s : Sh) : Prop :=
  ∃ K ps t A cS bK low, AR w K a room ps t t A cS bK low ∧ LowK t low ∧ FitT t ∧ Eqv t s ∧ (∀ g, Own K a bK A g → F g) ∧ (∀ g, Chg a bK A g → B ≤ g) ∧ B ≤ w.heap.size ∧ TB B w
theorem own_lt {w : World} {K : Nat → Prop} {a room cS bK low : Nat} {ps : List (Option Nat)} {t tm : Sh} {A : Option Addr} (h : AR w K a room ps t tm A cS bK low) {g : Nat} (hg : Own K a bK A g) : g < w.heap.size := by
  rcases hg with e | e
  · exact h.kl g e
  · exact (h.chg e).2
theorem inv_eqv {room : Nat} {s t : Sh} (hi : Inv room s) (h : Eqv t s) (hl : t.length ≤ room) : Inv room t :=
  ⟨fun x y n e1 e2 => hi.one x y n (by rw [← h x]; exact e1) (by rw [← h y]; exact e2), fun x n e r hr => by rw [h.liveE]; exact hi.shut x n (by rw [← h x]; exact e) r hr, hl⟩
theorem fitK_of {n : Nd} (h : FitB n) : FitK n := ⟨h.1, h.2⟩
theorem Eqv.getNE {s t : Sh} (h : Eqv t s) (x : Int) : getN t x = getN s x := by unfold getN; rw [h x]
theorem Eqv.getEE {s t : Sh} (h : Eqv t s) (x : Int) : getE t x = getE s x := by unfold getE; rw [h.liveE]
theorem chg_below {w w' : World} {K : Nat → Prop} {a room cS bK low B : Nat} {ps : List (Option Nat)} {t tm : Sh} {A : Option Addr} (hC : ∀ g, Chg a bK A g → B ≤ g) (hB : B ≤ w.heap.size) (hb : ButS (Chg a bK A) w w') : Below B w w' :=
  hb.below (fun k hk hc => by have := hC k hc; omega) hB
theorem arena_does (B : Nat) : AC B (TB B) (AP9 B) where
  on := fun h hb => h.on hb
  kept := fun {w w' F a room s} h hk hb => by
    obtain ⟨K, ps, t, A, cS, bK, low, hA, hL, hF, hE, hO, hC, hB, hT⟩ := h
    exact ⟨K, ps, t, A, cS, bK, low, hA.kept ⟨hk.size, fun g hg hl => hk.block g (hO g hg) hl⟩, hL, hF, hE, hO, hC, Nat.le_trans hB hk.size, hT.on hb⟩
  mono := fun {w F G a room s} h hm => by
    obtain ⟨K, ps, t, A, cS, bK, low, hA, hL, hF, hE, hO, hC, hB, hT⟩ := h
    exact ⟨K, ps, t, A, cS, bK, low, hA, hL, hF, hE, fun g hg => hm g (hO g hg) (own_lt hA hg), hC, hB, hT⟩
  new := fun w r hT hB => (pNew_any w r).mono fun e w' ⟨h1, h2, h3⟩ => by
    refine ⟨fun hr => ?_, h2, h3⟩
    obtain ⟨a, b, he, ha, hb, hA⟩ := h1 hr
    have hch : ∀ g, Chg a b none g → w.heap.size ≤ g := fun g hg => by
      rcases hg with e | e | ⟨o, e⟩
      · omega
      · omega
      · cases e
    exact ⟨a, he, fun _ => False, [], [], none, 0, b, 0, hA, fun i hi => by omega, fun k n hn => by unfold ndAt at hn; split at hn <;> simp at hn, Eqv.refl _, fun g hg => hg.elim (fun e => e.elim) (hch g), fun g hg => Nat.le_trans hB (hch g hg), Nat.le_trans hB h3.size, hT.on (h3.mono hB)⟩
  put := fun {w F Q a room s} h hI l Al ca hl hQ hll hf => by
    obtain ⟨K, ps, t, A, cS, bK, low, hA, hL, hF, hE, hO, hC, hB, hT⟩ := h
    refine (pPut_any hA hL hF (inv_eqv hI hE hA.len) l Q Al ca hl (fun g hg hc => hQ g hg (hO g (.inr hc))) hll (fun n hn => fitK_of (hf n hn)) hT hB hC).mono fun e w' h => ?_
    obtain ⟨O, co, H', he, K', ps', t', A', cS', low', hA', hL', hF', hE', hr, hH, hk, hc, hb⟩ := h
    obtain ⟨e1, e2⟩ := hE.put (room := room) l
    rw [e2] at he hr
    have hbl := chg_below (w := w) (K := K) (room := room) (cS := cS) (low := low) (ps := ps) (t := t) (tm := t) hC hB hb
    refine ⟨O, co, he, Own K' a bK A', hr.mono fun g hg _ => hH g hg, ⟨K', ps', t', A', cS', bK, low', hA', hL', hF', hE'.trans e1, fun g hg => hg, fun g hg => (hc g hg).elim (hC g) (fun e => Nat.le_trans hB e), Nat.le_trans hB hb.size, hT.on hbl⟩, fun g hg => ?_, hb.mono fun g hg => hO g (.inr hg)⟩
    rcases hg with hg | hg
    · exact (hk g hg).imp (fun e => hO g (.inl e)) id
    · exact (hc g hg).imp (fun e => hO g (.inr e)) id
  sweep := fun {w F Q a room s} h hI l Al ca hl hQ hll h64 => by
    obtain ⟨K, ps, t, A, cS, bK, low, hA, hL, hF, hE, hO, hC, hB, hT⟩ := h
    refine (pSweep_any hA hL hF (inv_eqv hI hE hA.len) l Q Al ca hl hll h64 hT hB hC).mono fun e w' h => ?_
    obtain ⟨he, ps', t', low', hA', hL', hF', hE', hb⟩ := h
    obtain ⟨e1, e2⟩ := hE.sweep l
    rw [e2] at he
    have hbl := chg_below (w := w) (K := K) (room := room) (cS := cS) (low := low) (ps := ps) (t := t) (tm := t) hC hB hb
    exact ⟨he, Own K a bK A, ⟨K, ps', t', A, cS, bK, low', hA', hL', hF', hE'.trans e1, fun g hg => hg, hC, Nat.le_trans hB hb.size, hT.on hbl⟩, fun g hg => .inl (hO g hg), hb.mono fun g hg => hO g (.inr hg)⟩
  reach := fun {w F Q a room s} h hI l Al ca hl hQ hll h64 => by
    obtain ⟨K, ps, t, A, cS, bK, low, hA, hL, hF, hE, hO, hC, hB, hT⟩ := h
    refine (pReach_any hA hF (inv_eqv hI hE hA.len) l Q Al ca hl hll h64).mono fun e w' ⟨O, co, he, hr, hb⟩ => ?_
    rw [hE.reach l] at he hr
    exact ⟨O, co, he, Own K a bK A, hr.mono fun g hg hl => ⟨hg, fun ho => by have := own_lt hA ho; omega⟩, ⟨K, ps, t, A, cS, bK, low, hA.below hb, hL, hF, hE, fun g hg => hg, hC, Nat.le_trans hB hb.size, hT.on (hb.mono hB)⟩, fun g hg => .inl (hO g hg), ButS.of_below hb⟩
  get := fun {w F a room s} h hI x hx => by
    obtain ⟨K, ps, t, A, cS, bK, low, hA, hL, hF, hE, hO, hC, hB, hT⟩ := h
    refine (pGet_any hA hF x hx).mono fun e w' ⟨A1, ca1, B1, cb1, he, hr1, hr2, hb⟩ => ?_
    rw [hE.getNE, hE.getEE] at he
    rw [hE.getNE] at hr1 hr2
    exact ⟨A1, ca1, B1, cb1, he, Own K a bK A, hr1.mono fun g hg hl => ⟨hg, fun ho => by have := own_lt hA ho; omega⟩, hr2.mono fun g hg hl => ⟨hg, fun ho => by have := own_lt hA ho; omega⟩, ⟨K, ps, t, A, cS, bK, low, hA.below hb, hL, hF, hE, fun g hg => hg, hC, Nat.le_trans hB hb.size, hT.on (hb.mono hB)⟩, fun g hg => .inl (hO g hg), ButS.of_below hb⟩
  live := fun {w F a room s} h hI => by
    obtain ⟨K, ps, t, A, cS, bK, low, hA, hL, hF, hE, hO, hC, hB, hT⟩ := h
    refine (pLive_any hA hF).mono fun e w' ⟨O, co, he, hr, hb⟩ => ?_
    rw [hE.liveAE] at he hr
    exact ⟨O, co, he, Own K a bK A, hr.mono fun g hg hl => ⟨hg, fun ho => by have := own_lt hA ho; omega⟩, ⟨K, ps, t, A, cS, bK, low, hA.below hb, hL, hF, hE, fun g hg => hg, hC, Nat.le_trans hB hb.size, hT.on (hb.mono hB)⟩, fun g hg => .inl (hO g hg), ButS.of_below hb⟩
  size := fun {w F a room s} h hI => by
    have h' := h
    obtain ⟨K, ps, t, A, cS, bK, low, hA, hL, hF, hE, hO, hC, hB, hT⟩ := h
    refine (pLen_any hA).mono fun e w' ⟨he, hw⟩ => ?_
    subst hw
    rw [hE.liveAE] at he
    exact ⟨he, F, h', fun g hg => .inl hg, ButS.refl _ _⟩
  room := fun {w F a room s} h hI => by
    have h' := h
    obtain ⟨K, ps, t, A, cS, bK, low, hA, hL, hF, hE, hO, hC, hB, hT⟩ := h
    refine (pRoom_any hA).mono fun e w' ⟨he, hw⟩ => ?_
    subst hw
    exact ⟨he, F, h', fun g hg => .inl hg, ButS.refl _ _⟩
  wide := fun {w F a room s} h => by
    obtain ⟨K, ps, t, A, cS, bK, low, hA, hL, hF, hE, hO, hC, hB, hT⟩ := h
    exact hA.wide
  fits := fun {w F a room s} h x n hn => by
    obtain ⟨K, ps, t, A, cS, bK, low, hA, hL, hF, hE, hO, hC, hB, hT⟩ := h
    have := hF x n (by rw [hE x]; exact hn)
    exact ⟨by have := this.1.1; omega, by have := this.1.2.1; omega⟩
  nPut := nPut_any
  nSweep := nSweep_any
  nGet := nGet_any
  nLive := nLive_any
  nReach := nReach_any
  nLen := nLen_any
  nRoom := nRoom_any
end Go.Proofs.YtbjbbpbagnlkmaaDoor
namespace Go.Proofs.YtbjbbpbagnlkmaaDoor
open Go.ChangeShapes Go.WideShapes Go.RowKit Go.Deep
section
variable {H : Type} {enc : TypeId × Value → H} {w : World} {base : Nat} {spare : Nat → Bool} {held : Bool}
set_option maxRecDepth 100000 in
theorem trod_rows {α : Type} [Inhabited α] {fuel : Nat} {c : Value} {x : DataW H × List MemPlace} {ts te : TypeId} {k : Nat} (f : α → List Value) (Ok : α → Prop) (hf : ∀ q, (f q).length = k)
    (hts : Tryd.prog.underlying ts = some (.slice te)) (hk : Tryd.prog.cellsOf te = k) (hk0 : 0 < k)
    (hel : ∀ {fuel : Nat} {cs : List Value} {x : DataW H × List MemPlace}, cs.length = k → DataW.trod enc Tryd.prog w base spare held fuel te cs = some x → ∃ q, cs = f q ∧ Ok q)
    (h : DataW.trod enc Tryd.prog w base spare held fuel ts [c] = some x) :
    ∃ (l : List α) (A : Option Addr) (cap : Nat), c = .slice A l.length cap ∧ l.length ≤ maxLen ∧ (∀ q ∈ l, Ok q) ∧ (l ≠ [] → ∃ g o, A = some ⟨g, o, none⟩ ∧ AtR f k w g o l) := by
  rcases DataW.trod_slice hts h with ⟨e5, _⟩ | ⟨ad, len, cap, el, rs, n4, rfl, e5, _, _, hlc, hcm, hle, helem, _, _⟩
  · simp only [List.cons.injEq, and_true] at e5
    exact ⟨([] : List α), none, 0, e5, by simp, by simp, fun hh => absurd rfl hh⟩
  · simp only [List.cons.injEq, and_true] at e5
    have key : ∀ i, i < len → ∃ q : α, (∀ (j : Nat) (u : Value), (f q)[j]? = some u → w.cell? ((ad.add (i * k)).add j) = some u) ∧ Ok q := by
      intro i hi
      have h1 := helem i hi
      rw [hk] at h1
      obtain ⟨y, hy⟩ : ∃ y, el[i]? = some y := ⟨el[i]'(by omega), List.getElem?_eq_getElem (by omega)⟩
      rw [hy] at h1
      obtain ⟨ce, hce, hte⟩ := Option.bind_eq_some_iff.1 h1
      obtain ⟨_, hcl, hcell⟩ := World.cells?_some hce
      obtain ⟨q, rfl, hq⟩ := hel hcl hte
      refine ⟨q, fun j u hj => ?_, hq⟩
      have hjl : j < k := by rw [← hf q]; exact (List.getElem?_eq_some_iff.1 hj).1
      rw [hcell j hjl]; exact hj
    obtain ⟨Q, hQ⟩ := choose_lt key
    refine ⟨(List.range len).map Q, some ad, cap, by simpa using e5, by simp; omega, fun q hq => ?_, fun hne => ?_⟩
    · obtain ⟨i, hi, rfl⟩ := List.mem_map.1 hq
      exact (hQ i (List.mem_range.1 hi)).2
    · have hpos : 0 < len := by
        cases len with
        | zero => simp at hne
        | succ k => omega
      obtain ⟨g, o, spot⟩ := ad
      have hspot : spot = none := by
        obtain ⟨u, hu⟩ : ∃ u, (f (Q 0))[0]? = some u := ⟨(f (Q 0))[0]'(by rw [hf]; exact hk0), List.getElem?_eq_getElem (by rw [hf]; exact hk0)⟩
        have h00 := (hQ 0 hpos).1 0 u hu
        simpa [Addr.add] using World.cell?_spot h00
      subst hspot
      refine ⟨g, o, rfl, fun i q hi j u hj => ?_⟩
      have hlt : i < len := by
        have := (List.getElem?_eq_some_iff.1 hi).1
        simpa using this
      have hq : Q i = q := by simpa [hlt] using hi
      have := (hQ i hlt).1 j u (by rw [hq]; exact hj)
      rwa [add_plain, add_plain] at this
theorem rowI_of {A : Option Addr} {l : List Int} (h : l ≠ [] → ∃ g o, A = some ⟨g, o, none⟩ ∧ AtR inW 1 w g o l) : RowI w (fun _ => True) A l := by
  cases l with
  | nil => exact .inl rfl
  | cons a l =>
    obtain ⟨g, o, rfl, ha⟩ := h (by simp)
    have hc : ∀ (i : Nat) (x : Int), (a :: l)[i]? = some x → w.cell? ⟨g, o + i, none⟩ = some (.int .i64 x) := fun i x hi => by
      have := ha i x hi 0 _ rfl
      simpa using this
    exact .inr ⟨g, o, rfl, trivial, Lib.lt_of_cell (hc 0 a rfl), hc⟩
theorem trod_ints {fuel : Nat} {c : Value} {x : DataW H × List MemPlace} (h : DataW.trod enc Tryd.prog w base spare held fuel 33 [c] = some x) :
    ∃ (l : List Int) (A : Option Addr) (cap : Nat), c = .slice A l.length cap ∧ l.length ≤ maxLen ∧ B64s l ∧ RowI w (fun _ => True) A l := by
  obtain ⟨l, A, cap, e, hl, ho, ha⟩ := trod_rows inW (fun x => -9223372036854775808 ≤ x ∧ x ≤ 9223372036854775807) (fun _ => rfl) Tryd.underlying33 (by kernel_rfl : Tryd.prog.cellsOf 3 = 1) (by decide) (fun {fuel cs x} hl ht => by
    match cs, hl with
    | [c0], _ =>
      obtain ⟨a, h0, _, wa⟩ := DataW.trod_int Tryd.underlying3 ht
      simp at h0
      subst h0
      have e1 : IntKind.i64.min = -9223372036854775808 := rfl
      have e2 : IntKind.i64.max = 9223372036854775807 := rfl
      simp [Lit.wf, e1, e2] at wa
      exact ⟨a, rfl, wa⟩) h
  exact ⟨l, A, cap, e, hl, ho, rowI_of ha⟩
def OkN (n : Nd) : Prop := n.refs.length ≤ maxLen ∧ n.nums.length ≤ maxLen ∧ B64s n.refs ∧ n.text.length ≤ maxLen ∧ B64s n.nums ∧ -9223372036854775808 ≤ n.kind ∧ n.kind ≤ 9223372036854775807
theorem rowN_of {A : Option Addr} {l : List NdM} (ho : ∀ q ∈ l, RowI w (fun _ => True) q.A q.n.refs ∧ RowI w (fun _ => True) q.B q.n.nums) (h : l ≠ [] → ∃ g o, A = some ⟨g, o, none⟩ ∧ AtR ndW 4 w g o l) : RowN w (fun _ => True) A (l.map NdM.n) := by
  cases l with
  | nil => exact .inl rfl
  | cons a l =>
    obtain ⟨g, o, rfl, ha⟩ := h (by simp)
    refine .inr ⟨g, o, rfl, trivial, ?_, fun i n hi => ?_⟩
    · exact Lib.lt_of_cell (ha 0 a rfl 0 _ rfl)
    · rw [List.getElem?_map] at hi
      cases hq : (a :: l)[i]? with
      | none => rw [hq] at hi; cases hi
      | some q =>
        rw [hq] at hi
        obtain rfl := Option.some.inj hi
        have h0 := ha i q hq 0 _ rfl
        have h1 := ha i q hq 1 _ rfl
        have h2 := ha i q hq 2 _ rfl
        have h3 := ha i q hq 3 _ rfl
        have := ho q (List.mem_of_getElem? hq)
        exact ⟨q.A, q.ca, q.B, q.cb, ⟨h0, h1, h2, h3⟩, this.1, this.2⟩
end
end Go.Proofs.YtbjbbpbagnlkmaaDoor
namespace Go.Proofs.YtbjbbpbagnlkmaaDoor
open Go.ChangeShapes Go.WideShapes Go.RowKit Go.Deep
section
variable {H : Type} {enc : TypeId × Value → H} {w : World} {base : Nat} {spare : Nat → Bool} {held : Bool}
theorem cellsI : Tryd.prog.cellsOf 3 = 1 := by kernel_rfl
theorem cellsIs : Tryd.prog.cellsOf 33 = 1 := by kernel_rfl
theorem cellsS : Tryd.prog.cellsOf 9 = 1 := by kernel_rfl
theorem cellsNode : Tryd.prog.cellsOf 40 = 4 := by kernel_rfl
theorem cellsNodes : Tryd.prog.cellsOf 32 = 1 := by kernel_rfl
theorem cellsU : Tryd.prog.cellsOf 5 = 1 := by kernel_rfl
theorem cellsAct : Tryd.prog.cellsOf 35 = 3 := by kernel_rfl
set_option maxRecDepth 100000 in
theorem trod_nodes {fuel : Nat} {c : Value} {x : DataW H × List MemPlace} (h : DataW.trod enc Tryd.prog w base spare held fuel 32 [c] = some x) :
    ∃ (l : List Nd) (A : Option Addr) (cap : Nat), c = .slice A l.length cap ∧ l.length ≤ maxLen ∧ (∀ n ∈ l, OkN n) ∧ RowN w (fun _ => True) A l := by
  obtain ⟨l, A, cap, e, hl, ho, ha⟩ := trod_rows ndW (fun q => OkN q.n ∧ RowI w (fun _ => True) q.A q.n.refs ∧ RowI w (fun _ => True) q.B q.n.nums) (fun _ => rfl) Tryd.underlying32 cellsNode (by decide) (fun {fuel cs x} hl ht => by
    match cs, hl with
    | [c0, c1, c2, c3], _ =>
      obtain ⟨xs, n, rfl, rfl, hcl, hxl, hf⟩ := DataW.trod_struct Tryd.underlying40 ht
      match xs, hxl with
      | [y0, y1, y2, y3], _ =>
      have g0 : DataW.trod enc Tryd.prog w base spare held n 3 [c0] = some y0 := by have := hf 0 _ rfl; rw [show ∀ z : TypeId, z = 3 → Tryd.prog.cellsOf z = 1 from fun z hz => by rw [hz]; exact cellsI] at this; exact this; rfl
      have g1 : DataW.trod enc Tryd.prog w base spare held n 33 [c1] = some y1 := by have := hf 1 _ rfl; rw [show ∀ z : TypeId, z = 33 → Tryd.prog.cellsOf z = 1 from fun z hz => by rw [hz]; exact cellsIs] at this; exact this; rfl
      have g2 : DataW.trod enc Tryd.prog w base spare held n 33 [c2] = some y2 := by have := hf 2 _ rfl; rw [show ∀ z : TypeId, z = 33 → Tryd.prog.cellsOf z = 1 from fun z hz => by rw [hz]; exact cellsIs] at this; exact this; rfl
      have g3 : DataW.trod enc Tryd.prog w base spare held n 9 [c3] = some y3 := by have := hf 3 _ rfl; rw [show ∀ z : TypeId, z = 9 → Tryd.prog.cellsOf z = 1 from fun z hz => by rw [hz]; exact cellsS] at this; exact this; rfl
      obtain ⟨a, h0, _, wa⟩ := DataW.trod_int Tryd.underlying3 g0
      obtain ⟨r, A1, k1, rfl, r1, r2, r3⟩ := trod_ints g1
      obtain ⟨s, A2, k2, rfl, s1, s2, s3⟩ := trod_ints g2
      obtain ⟨z, hz, _, hzl⟩ := DataW.trod_string Tryd.underlying9 g3
      simp at h0 hz
      subst h0 hz
      have e1 : IntKind.i64.min = -9223372036854775808 := rfl
      have e2 : IntKind.i64.max = 9223372036854775807 := rfl
      simp [Lit.wf, e1, e2] at wa
      refine ⟨⟨⟨a, r, s, z.data.toList⟩, A1, k1, A2, k2⟩, rfl, ⟨r1, s1, r2, ?_, s2, wa⟩, r3, s3⟩
      show z.data.toList.length ≤ maxLen
      rw [Array.length_toList]; exact hzl) h
  refine ⟨l.map NdM.n, A, cap, by rw [List.length_map]; exact e, by rw [List.length_map]; exact hl, fun n hn => ?_, rowN_of (fun q hq => (ho q hq).2) ha⟩
  obtain ⟨q, hq, rfl⟩ := List.mem_map.1 hn
  exact (ho q hq).1
def OkA (q : AcM) : Prop := (0 ≤ q.kind ∧ q.kind ≤ 255) ∧ q.L.length ≤ maxLen ∧ (∀ n ∈ q.L, OkN n) ∧ q.roots.length ≤ maxLen ∧ B64s q.roots
set_option maxRecDepth 100000 in
theorem open_acts {r : Reach} {b0 : Nat} {v : Value} {d : DataW H} {p : List MemPlace} (hv : Value.okWide Tryd.prog w r b0 22 v) (h : DataW.Trod enc Tryd.prog w base spare held 22 v d p) :
    ∃ (l : List AcM) (A : Option Addr) (cap : Nat), v = .slice A l.length cap ∧ l.length ≤ maxLen ∧ (∀ q ∈ l, OkA q) ∧ RowA w (fun _ => True) A l := by
  haveI : Inhabited AcM := ⟨⟨0, [], none, 0, [], none, 0⟩⟩
  obtain ⟨l, A, cap, e, hl, ho, ha⟩ := open_rows acW (fun q => OkA q ∧ RowN w (fun _ => True) q.LA q.L ∧ RowI w (fun _ => True) q.RA q.roots) (fun _ => rfl) Tryd.underlying22 cellsAct (by decide) (fun {fuel cs x} hl ht => by
    match cs, hl with
    | [c0, c1, c2], _ =>
      obtain ⟨xs, n, rfl, rfl, hcl, hxl, hf⟩ := DataW.trod_struct Tryd.underlying35 ht
      match xs, hxl with
      | [y0, y1, y2], _ =>
      have g0 : DataW.trod enc Tryd.prog w base spare held n 5 [c0] = some y0 := by have := hf 0 _ rfl; rw [show ∀ z : TypeId, z = 5 → Tryd.prog.cellsOf z = 1 from fun z hz => by rw [hz]; exact cellsU] at this; exact this; rfl
      have g1 : DataW.trod enc Tryd.prog w base spare held n 32 [c1] = some y1 := by have := hf 1 _ rfl; rw [show ∀ z : TypeId, z = 32 → Tryd.prog.cellsOf z = 1 from fun z hz => by rw [hz]; exact cellsNodes] at this; exact this; rfl
      have g2 : DataW.trod enc Tryd.prog w base spare held n 33 [c2] = some y2 := by have := hf 2 _ rfl; rw [show ∀ z : TypeId, z = 33 → Tryd.prog.cellsOf z = 1 from fun z hz => by rw [hz]; exact cellsIs] at this; exact this; rfl
      obtain ⟨a, h0, _, wa⟩ := DataW.trod_int Tryd.underlying5 g0
      obtain ⟨L, A1, k1, rfl, r1, r2, r3⟩ := trod_nodes g1
      obtain ⟨s, A2, k2, rfl, s1, s2, s3⟩ := trod_ints g2
      simp at h0
      subst h0
      have e1 : IntKind.u8.min = 0 := rfl
      have e2 : IntKind.u8.max = 255 := rfl
      simp [Lit.wf, e1, e2] at wa
      exact ⟨⟨a, L, A1, k1, s, A2, k2⟩, rfl, ⟨wa, r1, r2, s1, s2⟩, r3, s3⟩) hv h
  refine ⟨l, A, cap, e, hl, fun q hq => (ho q hq).1, ?_⟩
  cases l with
  | nil => exact .inl rfl
  | cons a l =>
    obtain ⟨g, o, rfl, hat⟩ := ha (by simp)
    refine .inr ⟨g, o, rfl, trivial, Lib.lt_of_cell (hat 0 a rfl 0 _ rfl), fun i q hi => ?_⟩
    have := ho q (List.mem_of_getElem? hi)
    exact ⟨⟨hat i q hi 0 _ rfl, hat i q hi 1 _ rfl, hat i q hi 2 _ rfl⟩, this.2.1, this.2.2⟩
end
end Go.Proofs.YtbjbbpbagnlkmaaDoor
namespace Go.Proofs.YtbjbbpbagnlkmaaDoor
open Go.RowKit
structure ActB (w : World) (B : Nat) (q : AcM) : Prop where
  rowN : RowN w (fun g => g < B) q.LA q.L
  rowI : RowI w (fun g => g < B) q.RA q.roots
  fit : FitA q
  nodes : ∀ n ∈ q.L, FitB n
  ints : B64s q.roots
  kind : 0 ≤ q.kind ∧ q.kind ≤ 255
theorem ActB.below {w w' : World} {B : Nat} {q : AcM} (h : ActB w B q) (hb : Below B w w') : ActB w' B q :=
  ⟨h.rowN.kept ⟨hb.size, fun g hg _ => hb.block g hg⟩, h.rowI.kept ⟨hb.size, fun g hg _ => hb.block g hg⟩, h.fit, h.nodes, h.ints, h.kind⟩
end Go.Proofs.YtbjbbpbagnlkmaaDoor
namespace Go.Proofs.YtbjbbpbagnlkmaaDoor
open Go.RowKit
structure ActsA (w : World) (l : List AcM) (A : Option Addr) : Prop where
  row : RowA w (fun g => g < w.heap.size) A l
  len : l.length ≤ maxLen
  ok : ∀ q ∈ l, (0 ≤ q.kind ∧ q.kind ≤ 255) ∧ (q.roots.length ≤ maxLen ∧ q.L.length ≤ maxLen) ∧ B64s q.roots ∧ ∀ n ∈ q.L, (n.refs.length ≤ maxLen ∧ n.nums.length ≤ maxLen ∧ n.text.length ≤ maxLen) ∧ B64s n.refs ∧ B64s n.nums ∧ -9223372036854775808 ≤ n.kind ∧ n.kind ≤ 9223372036854775807
theorem ActsA.fits {w : World} {l : List AcM} {A : Option Addr} (h : ActsA w l A) (hf : ∀ q ∈ l, FitA q) : ∀ q ∈ l, FitA q ∧ (∀ n ∈ q.L, FitB n) ∧ B64s q.roots ∧ (0 ≤ q.kind ∧ q.kind ≤ 255) := fun q hq =>
  ⟨hf q hq, fun n hn => ⟨(hf q hq).2.2 n hn, ((h.ok q hq).2.2.2 n hn).2⟩, (h.ok q hq).2.2.1, (h.ok q hq).1⟩
def AliveC (w : World) : Prop := ∀ w1 : World, Below w.heap.size w w1 → Calls Tryd.prog 6 #[] w1 fun e w' => e = .returned (.bool true) ∧ Below w1.heap.size w1 w'
end Go.Proofs.YtbjbbpbagnlkmaaDoor
namespace Go.Proofs.YtbjbbpbagnlkmaaDoor
open Go.RowKit
theorem rowI_lit {w : World} {g : Nat} {cs : Array Value} {T : TypeId} {Q : Nat → Prop} {l : List Int} (hh : w.heap[g]? = some (.cells cs T (0, 0))) (hc : cs.toList = l.flatMap inW) (hQ : Q g) : RowI w Q (some ⟨g, 0, none⟩) l := by
  refine .inr ⟨g, 0, rfl, hQ, (Array.getElem?_eq_some_iff.1 hh).1, atR_row (fun i q hi j u hj => ?_)⟩
  rw [Nat.zero_add, Lib.cell_of_heap hh (i * 1 + j)]
  have := flatR_at (f := inW) (n := 1) (fun _ => rfl) l i q hi j u hj
  rw [← hc] at this
  simpa using this
theorem rowN_lit {w : World} {g : Nat} {cs : Array Value} {T : TypeId} {Q : Nat → Prop} {L : List NdM} {l : List Nd} (hh : w.heap[g]? = some (.cells cs T (0, 0))) (hc : cs.toList = L.flatMap ndW) (hl : L.map NdM.n = l) (hQ : Q g) (hr : ∀ q ∈ L, RowI w Q q.A q.n.refs ∧ RowI w Q q.B q.n.nums) : RowN w Q (some ⟨g, 0, none⟩) l := by
  subst hl
  have hat : AtR ndW 4 w g 0 L := fun i q hi j u hj => by
    rw [Nat.zero_add, Lib.cell_of_heap hh (i * 4 + j)]
    have := flatR_at (f := ndW) (n := 4) (fun _ => rfl) L i q hi j u hj
    rw [← hc] at this
    simpa using this
  refine .inr ⟨g, 0, rfl, hQ, (Array.getElem?_eq_some_iff.1 hh).1, fun i n hi => ?_⟩
  have := list_rows (w := w) (P := Q) (rows_atR hat) hr i n hi
  rwa [Nat.zero_add]
section
variable {EV : World → Prop} {AP : World → (Nat → Prop) → Nat → Nat → Sh → Prop}
structure AlK (AP : World → (Nat → Prop) → Nat → Nat → Sh → Prop) (w : World) (B : Nat) (F : Nat → Prop) (a room : Nat) (s : Sh) (K : Nat → Prop) : Prop where
  ap : AP w F a room s
  inv : Inv room s
  own : ∀ g, F g → B ≤ g ∧ g < w.heap.size
  keep : ∀ g, K g → g < w.heap.size ∧ ¬ F g
  base : B ≤ w.heap.size
variable {w w1 : World} {B a room : Nat} {F F' K : Nat → Prop} {s s' : Sh}
theorem AlK.op (hC : AC B EV AP) (h : AlK AP w B F a room s K) (haf : After AP w F a room s' w1 F') (hI : Inv room s') :
    AlK AP w1 B (fun g => F' g ∧ g < w1.heap.size) a room s' (fun g => K g ∨ (w.heap.size ≤ g ∧ g < w1.heap.size ∧ ¬ F' g)) ∧ Kept w w1 K ∧ Below B w w1 := by
  have hz := haf.2.2.size
  refine ⟨⟨hC.mono haf.1 fun g hg hl => ⟨hg, hl⟩, hI, fun g hg => ⟨?_, hg.2⟩, fun g hg => ?_, Nat.le_trans h.base hz⟩, haf.2.2.keptQ fun g hg => (h.keep g hg).2, haf.2.2.below (fun k hk hf => by have := h.own k hf; omega) h.base⟩
  · rcases haf.2.1 g hg.1 with q | q
    · exact (h.own g q).1
    · have := h.base; omega
  · rcases hg with hg | hg
    · have hk := h.keep g hg
      exact ⟨by omega, fun e => by
        rcases haf.2.1 g e.1 with q | q
        · exact hk.2 q
        · omega⟩
    · exact ⟨hg.2.1, fun e => hg.2.2 e.1⟩
theorem AlK.below (hC : AC B EV AP) (h : AlK AP w B F a room s K) (hb : Below w.heap.size w w1) : AlK AP w1 B F a room s (fun g => K g ∨ (w.heap.size ≤ g ∧ g < w1.heap.size)) ∧ Kept w w1 K ∧ Below B w w1 := by
  have hz := hb.size
  refine ⟨⟨hC.kept h.ap (Kept.of_below hb) (hb.mono h.base), h.inv, fun g hg => by have := h.own g hg; omega, fun g hg => ?_, Nat.le_trans h.base hz⟩, Kept.of_below hb, hb.mono h.base⟩
  rcases hg with hg | hg
  · have := h.keep g hg; exact ⟨by omega, this.2⟩
  · exact ⟨hg.2, fun e => by have := h.own g e; omega⟩
def Left (AP : World → (Nat → Prop) → Nat → Nat → Sh → Prop) (w : World) (B a room : Nat) (s : Sh) (K : Nat → Prop) (w' : World) (K' : Nat → Prop) : Prop :=
  (∃ F', AlK AP w' B F' a room s K') ∧ (∀ g, K g → K' g) ∧ Kept w w' K ∧ Below B w w'
def One (AP : World → (Nat → Prop) → Nat → Nat → Sh → Prop) (w : World) (B a room : Nat) (s : Sh) (K : Nat → Prop) : Prop := ∃ F, AlK AP w B F a room s K
theorem One.below (hC : AC B EV AP) (h : One AP w B a room s K) (hb : Below w.heap.size w w1) : One AP w1 B a room s (fun g => K g ∨ (w.heap.size ≤ g ∧ g < w1.heap.size)) ∧ Kept w w1 K ∧ Below B w w1 := by
  obtain ⟨F, h⟩ := h
  obtain ⟨h1, h2, h3⟩ := h.below hC hb
  exact ⟨⟨F, h1⟩, h2, h3⟩
theorem One.base (h : One AP w B a room s K) : B ≤ w.heap.size := by obtain ⟨F, h⟩ := h; exact h.base
theorem One.inv (h : One AP w B a room s K) : Inv room s := by obtain ⟨F, h⟩ := h; exact h.inv
theorem One.lt (h : One AP w B a room s K) {g : Nat} (hg : K g) : g < w.heap.size := by obtain ⟨F, h⟩ := h; exact (h.keep g hg).1
theorem oPut (hC : AC B EV AP) (h : One AP w B a room s K) (l : List Nd) (A : Option Addr) (ca : Nat) (hrow : RowN w K A l) (hlen : l.length ≤ 200) (hfit : ∀ n ∈ l, FitB n) {out : List Int} {c : Nat} (he : putA room s l = (s', out, c)) :
    Calls Tryd.prog 18 #[.pointer (some ⟨a, 0, none⟩), .slice A l.length ca] w fun e w' => ∃ O co K', e = .returned (.tuple #[.slice O out.length co, .int .i64 (c : Int)]) ∧ RowI w' K' O out ∧ One AP w' B a room s' K' ∧ (∀ g, K g → K' g) ∧ Kept w w' K ∧ Below B w w' := by
  obtain ⟨F, h⟩ := h
  have hI := (inv_put h.inv l).1
  have hc := hC.put h.ap h.inv l A ca hrow (fun g hg => (h.keep g hg).2) hlen hfit
  rw [he] at hI hc
  refine hc.mono fun e w' ⟨O, co, hr, F', r, haf⟩ => ?_
  obtain ⟨h1, h2, h3⟩ := h.op hC haf hI
  exact ⟨O, co, _, hr, r.mono fun g hg hl => .inr ⟨hg.1, hl, hg.2⟩, ⟨_, h1⟩, fun g hg => .inl hg, h2, h3⟩
theorem oSweep (hC : AC B EV AP) (h : One AP w B a room s K) (l : List Int) (A : Option Addr) (ca : Nat) (hrow : RowI w K A l) (hlen : l.length ≤ 1000) (hfit : B64s l) {n c : Nat} (he : sweepA s l = (s', n, c)) :
    Calls Tryd.prog 19 #[.pointer (some ⟨a, 0, none⟩), .slice A l.length ca] w fun e w' => ∃ K', e = .returned (.tuple #[.int .i64 (n : Int), .int .i64 (c : Int)]) ∧ One AP w' B a room s' K' ∧ (∀ g, K g → K' g) ∧ Kept w w' K ∧ Below B w w' := by
  obtain ⟨F, h⟩ := h
  have hI := inv_sweep h.inv l
  have hc := hC.sweep h.ap h.inv l A ca hrow (fun g hg => (h.keep g hg).2) hlen hfit
  rw [he] at hI hc
  refine hc.mono fun e w' ⟨hr, F', haf⟩ => ?_
  obtain ⟨h1, h2, h3⟩ := h.op hC haf hI
  exact ⟨_, hr, ⟨_, h1⟩, fun g hg => .inl hg, h2, h3⟩
theorem oReach (hC : AC B EV AP) (h : One AP w B a room s K) (l : List Int) (A : Option Addr) (ca : Nat) (hrow : RowI w K A l) (hlen : l.length ≤ 1000) (hfit : B64s l) :
    Calls Tryd.prog 20 #[.pointer (some ⟨a, 0, none⟩), .slice A l.length ca] w fun e w' => ∃ O co K', e = .returned (.slice O (reachA s l).length co) ∧ RowI w' K' O (reachA s l) ∧ One AP w' B a room s K' ∧ (∀ g, K g → K' g) ∧ Kept w w' K ∧ Below B w w' := by
  obtain ⟨F, h⟩ := h
  refine (hC.reach h.ap h.inv l A ca hrow (fun g hg => (h.keep g hg).2) hlen hfit).mono fun e w' ⟨O, co, hr, F', r, haf⟩ => ?_
  obtain ⟨h1, h2, h3⟩ := h.op hC haf h.inv
  exact ⟨O, co, _, hr, r.mono fun g hg hl => .inr ⟨hg.1, hl, hg.2⟩, ⟨_, h1⟩, fun g hg => .inl hg, h2, h3⟩
theorem oLive (hC : AC B EV AP) (h : One AP w B a room s K) :
    Calls Tryd.prog 11 #[.pointer (some ⟨a, 0, none⟩)] w fun e w' => ∃ O co K', e = .returned (.slice O (liveA s).length co) ∧ RowI w' K' O (liveA s) ∧ One AP w' B a room s K' ∧ (∀ g, K g → K' g) ∧ Kept w w' K ∧ Below B w w' := by
  obtain ⟨F, h⟩ := h
  refine (hC.live h.ap h.inv).mono fun e w' ⟨O, co, hr, F', r, haf⟩ => ?_
  obtain ⟨h1, h2, h3⟩ := h.op hC haf h.inv
  exact ⟨O, co, _, hr, r.mono fun g hg hl => .inr ⟨hg.1, hl, hg.2⟩, ⟨_, h1⟩, fun g hg => .inl hg, h2, h3⟩
theorem oGet (hC : AC B EV AP) (h : One AP w B a room s K) (x : Int) (hx : -9223372036854775808 ≤ x ∧ x ≤ 9223372036854775807) :
    Calls Tryd.prog 15 #[.pointer (some ⟨a, 0, none⟩), .int .i64 x] w fun e w' => ∃ A ca C cc K', e = .returned (.tuple #[ndV (getN s x) A ca C cc, .int .i64 (getE s x)]) ∧ RowI w' K' A (getN s x).refs ∧ RowI w' K' C (getN s x).nums ∧ One AP w' B a room s K' ∧ (∀ g, K g → K' g) ∧ Kept w w' K ∧ Below B w w' := by
  obtain ⟨F, h⟩ := h
  refine (hC.get h.ap h.inv x hx).mono fun e w' ⟨A, ca, C, cc, hr, F', r1, r2, haf⟩ => ?_
  obtain ⟨h1, h2, h3⟩ := h.op hC haf h.inv
  exact ⟨A, ca, C, cc, _, hr, r1.mono fun g hg hl => .inr ⟨hg.1, hl, hg.2⟩, r2.mono fun g hg hl => .inr ⟨hg.1, hl, hg.2⟩, ⟨_, h1⟩, fun g hg => .inl hg, h2, h3⟩
theorem oLen (hC : AC B EV AP) (h : One AP w B a room s K) :
    Calls Tryd.prog 13 #[.pointer (some ⟨a, 0, none⟩)] w fun e w' => ∃ K', e = .returned (.int .i64 ((liveA s).length : Int)) ∧ One AP w' B a room s K' ∧ (∀ g, K g → K' g) ∧ Kept w w' K ∧ Below B w w' := by
  obtain ⟨F, h⟩ := h
  refine (hC.size h.ap h.inv).mono fun e w' ⟨hr, F', haf⟩ => ?_
  obtain ⟨h1, h2, h3⟩ := h.op hC haf h.inv
  exact ⟨_, hr, ⟨_, h1⟩, fun g hg => .inl hg, h2, h3⟩
theorem oRoom (hC : AC B EV AP) (h : One AP w B a room s K) :
    Calls Tryd.prog 14 #[.pointer (some ⟨a, 0, none⟩)] w fun e w' => ∃ K', e = .returned (.int .i64 (room : Int)) ∧ One AP w' B a room s K' ∧ (∀ g, K g → K' g) ∧ Kept w w' K ∧ Below B w w' := by
  obtain ⟨F, h⟩ := h
  refine (hC.room h.ap h.inv).mono fun e w' ⟨hr, F', haf⟩ => ?_
  obtain ⟨h1, h2, h3⟩ := h.op hC haf h.inv
  exact ⟨_, hr, ⟨_, h1⟩, fun g hg => .inl hg, h2, h3⟩
theorem oNew (w : World) (hC : AC w.heap.size EV AP) (hE : EV w) (room : Nat) (hr : room ≤ 65536) :
    Calls Tryd.prog 7 #[.int .i64 (room : Int)] w fun e w' => ∃ a K', e = .returned (.tuple #[.pointer (some ⟨a, 0, none⟩), .int .i64 0]) ∧ One AP w' w.heap.size a room [] K' ∧ (∀ g, g < w.heap.size → K' g) ∧ Below w.heap.size w w' := by
  refine (hC.new w room hE (Nat.le_refl _)).mono fun e w' ⟨hy, _, hb⟩ => ?_
  obtain ⟨a, he, hA⟩ := hy (by omega)
  have hA : AP w' (fun g => w.heap.size ≤ g) a room [] := by simpa using hA
  have hz := hb.size
  exact ⟨a, fun g => g < w.heap.size, he, ⟨fun g => w.heap.size ≤ g ∧ g < w'.heap.size, ⟨hC.mono hA fun g h hl => ⟨h, hl⟩, inv_nil room, fun g hg => hg, fun g hg => ⟨by omega, fun e => by omega⟩, hz⟩⟩, fun g hg => hg, hb⟩
end
/- The live question, by the document. -/
def alN1 : Nd := ⟨1, [], [], [120]⟩
def alN2 : Nd := ⟨2, [1, 0], [5], []⟩
theorem al1 : putA 3 [] [alN1, ⟨2, [-1, 0], [5], []⟩, alN1] = ([some alN1, some alN2], [1, 2, 1], 0) := by decide
theorem al2 : putA 3 [some alN1, some alN2] [⟨3, [], [], []⟩, ⟨4, [], [], []⟩] = ([some alN1, some alN2], [], 3) := by decide
theorem al3 : putA 3 [some alN1, some alN2] [⟨0, [3], [], []⟩, ⟨4, [], [], []⟩] = ([some alN1, some alN2], [], 1) := by decide
theorem al5 : putA 3 [some alN1, none] [⟨7, [1], [], []⟩] = ([some alN1, some ⟨7, [1], [], []⟩], [2], 0) := by decide
theorem alR (h : Int) : Rch [some alN1, some alN2] [1] h ↔ h = 1 := by
  constructor
  · intro e
    induction e with
    | root r hm _ => simpa using hm
    | ref h r n _ hn hm hp ih =>
      subst ih
      have : n = alN1 := by have h2 : ndAt [some alN1, some alN2] 1 = some alN1 := by decide
                            rw [h2] at hn; exact (Option.some.inj hn).symm
      subst this
      cases hm
  · rintro rfl
    exact .root 1 (by simp) (by decide)
theorem al4 : sweepA [some alN1, some alN2] [1] = ([some alN1, none], 1, 0) := by
  have hl : leftA [some alN1, some alN2] [1] = [some alN1, none] := by
    unfold leftA leftF leftF leftF
    rw [if_pos ((alR 1).2 rfl), if_neg (fun e => absurd ((alR (1 + 1)).1 e) (by decide))]
  rw [sweep_yes (by decide)]
  unfold reachA
  rw [hl]
  decide
end Go.Proofs.YtbjbbpbagnlkmaaDoor
