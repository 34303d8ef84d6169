/- Texts joined: NdF, NdGk, NdG, NdH, NdI, NdK. -/
import Derived.Test.YtjgjacihdggimaaGreatDoorDk04
import Derived.Test.YtjgjacihdggimaaGreatDoorDk01
import Derived.Deep.RegionWith
import Derived.Test.YtjgjacihdggimaaGreatDoorDk05
import Derived.Test.YtjgjacihdggimaaGreatDoorDk03
import Derived.StillTactics
import Derived.Deep.QuietTactic
import Derived.BigQuiet
import Derived.Deep.RegionHeld3
import Derived.Test.YtjgjacihdggimaaGreatDoorDk06
set_option linter.all false
namespace Go.Proofs.YtjgjacihdggimaaGreatDoor
open Go.RowKit
theorem takes_next {α : Type} {a b : List α} {i : Nat} {x y : α} (ha : a[i]? = some x) (hb : b[i]? = some y) (h : a.take i = b.take i) (e : x = y) : a.take (i + 1) = b.take (i + 1) := by
  rw [List.take_add_one, List.take_add_one, ha, hb, h, e]
theorem takes_no {α : Type} {a b : List α} {i : Nat} {x y : α} (ha : a[i]? = some x) (hb : b[i]? = some y) (e : x ≠ y) : a ≠ b := fun h => by
  rw [h, hb] at ha; exact e (Option.some.inj ha).symm
set_option maxHeartbeats 2000000 in
set_option maxRecDepth 10000 in
theorem rInts_any (a b : List Int) (A B : Option Addr) (ca cb : Nat) (w : World) (P Q : Nat → Prop) (hA : RowI w P A a) (hB : RowI w Q B b) (hla : a.length ≤ maxLen) :
    Calls Tryz.prog 91 #[.slice A a.length ca, .slice B b.length cb] w fun e w' => e = .returned (.bool (decide (a = b))) ∧ Below w.heap.size w w' := by
  have HA := Lib.hid hA
  have HB := Lib.hid hB
  unfold maxLen at hla
  clear hA hB
  by_cases hl : a.length = b.length
  · have HLL := Lib.hid hl
    have hd : ((a.length : Int) != (b.length : Int)) = false := by rw [hl]; simp
    clear hl
    go_enter Tryz.func91, Tryz.ntmps91
    go_wp2_with fail
    go_loopw [5] (fun vi wr => ∃ i : Nat, i ≤ a.length ∧ vi = .int .i64 (i : Int) ∧ Hid (a.take i = b.take i) ∧ Below w.heap.size w wr) (fun vi _ => a.length - (RowKit.intOf vi).toNat)
    case atStart => exact ⟨0, Nat.zero_le _, rfl, Lib.hid rfl, Below.refl _ _⟩
    case round =>
      obtain ⟨i, hi, rfl, HT, hb⟩ := hrel
      by_cases hlt : i < a.length
      · have hlt2 : i < b.length := HLL.out ▸ hlt
        obtain ⟨g, o, rfl, _, _, hca⟩ := HA.out.at hlt
        obtain ⟨g2, o2, rfl, _, _, hcb⟩ := HB.out.at hlt2
        obtain ⟨x, hx⟩ : ∃ x, a[i]? = some x := ⟨_, List.getElem?_eq_getElem hlt⟩
        obtain ⟨y, hy⟩ : ∃ y, b[i]? = some y := ⟨_, List.getElem?_eq_getElem hlt2⟩
        have q0 := keep_cell hb (hca i x hx)
        have q1 := keep_cell hb (hcb i y hy)
        by_cases hxy : x = y
        · have HN := Lib.hid (takes_next hx hy HT.out hxy)
          subst hxy
          clear hx hy hca hcb
          go_wp2_with fail
          try go_quiet (fail)
          try go_wp2_with fail
          go_roundw
          case rel => exact ⟨i + 1, by omega, by go_num, HN, by first | exact hb | exact below_drewN hb _⟩
          case measure => simp [RowKit.intOf]; omega
        · have HN := Lib.hid (takes_no hx hy hxy)
          have hd2 : (x != y) = true := by simpa using hxy
          clear hx hy hca hcb
          go_wp2_with fail
          try go_quiet (fail)
          try go_wp2_with fail
          go_ret
          exact ⟨by rw [decide_eq_false HN.out]; rfl, by first | exact hb | exact below_drewN hb _⟩
      · have hii : i = a.length := by omega
        subst hii
        have hz := HT.out
        rw [List.take_length, HLL.out, List.take_length] at hz
        have HZ := Lib.hid hz
        clear hz
        go_wp2_with fail
        go_ret
        exact ⟨by rw [decide_eq_true HZ.out]; rfl, hb⟩
  · have hd : ((a.length : Int) != (b.length : Int)) = true := by simp; omega
    have HN : Hid (a ≠ b) := Lib.hid fun h => hl (by rw [h])
    clear hl
    go_enter Tryz.func91, Tryz.ntmps91
    go_wp2_with fail
    go_ret
    exact ⟨by rw [decide_eq_false HN.out]; rfl, Below.refl _ _⟩

theorem same_yes {x y : Nd} (h0 : x.kind = y.kind) (h1 : x.text = y.text) (h2 : x.refs = y.refs) (h3 : x.nums = y.nums) : x = y := by
  cases x; cases y; simp only at h0 h1 h2 h3; subst h0 h1 h2 h3; rfl
theorem same_dec (x y : Nd) : decide (x = y) = ((x.kind == y.kind) && (x.text == y.text) && decide (x.refs = y.refs) && decide (x.nums = y.nums)) := by
  rw [Bool.eq_iff_iff]
  simp only [decide_eq_true_eq, Bool.and_eq_true, beq_iff_eq]
  exact ⟨fun h => by subst h; exact ⟨⟨⟨rfl, rfl⟩, rfl⟩, rfl⟩, fun ⟨⟨⟨h0, h1⟩, h2⟩, h3⟩ => same_yes h0 h1 h2 h3⟩
set_option maxHeartbeats 4000000 in
set_option maxRecDepth 10000 in
theorem rndsame_any (x y : Nd) (A B C D : Option Addr) (ca cb cc cd : Nat) (w : World) (P Q : Nat → Prop) (hA : RowI w P A x.refs) (hB : RowI w P B x.nums) (hC : RowI w Q C y.refs) (hD : RowI w Q D y.nums)
    (h1 : x.refs.length ≤ maxLen) (h2 : x.nums.length ≤ maxLen) :
    Calls Tryz.prog 79 #[ndV x A ca B cb, ndV y C cc D cd] w fun e w' => e = .returned (.bool (decide (x = y))) ∧ Below w.heap.size w w' := by
  have HI1 := Lib.hid (fun w' (hb : Below w.heap.size w w') => rInts_any x.refs y.refs A C ca cc w' P Q (hA.below hb) (hC.below hb) h1)
  have HI2 := Lib.hid (fun w' (hb : Below w.heap.size w w') => rInts_any x.nums y.nums B D cb cd w' P Q (hB.below hb) (hD.below hb) h2)
  have HD := Lib.hid (same_dec x y)
  have hK := Lib.hid (Eq.refl (x.kind == y.kind))
  clear hA hB hC hD h1 h2
  unfold ndV
  have hb0 : Below w.heap.size w ((w.alloc (.cells #[.int .i64 x.kind, .slice A x.refs.length ca, .slice B x.nums.length cb, .string ⟨x.text.toArray⟩] 110)).alloc (.cells #[.int .i64 y.kind, .slice C y.refs.length cc, .slice D y.nums.length cd, .string ⟨y.text.toArray⟩] 110)) := ((Below.refl _ _).alloc (Nat.le_refl _) _).alloc (by simp) _
  generalize decide (x = y) = DD at *
  generalize decide (x.refs = y.refs) = R at *
  generalize decide (x.nums = y.nums) = N at *
  have HB0 := Lib.hid hb0
  clear hb0
  cases hk : x.kind == y.kind
  · rw [hk] at HD
    go_enter Tryz.func79, Tryz.ntmps79
    go_wp2_with fail
    go_ret
    exact ⟨by rw [HD.out]; rfl, HB0.out⟩
  · cases ht : x.text == y.text
    · rw [hk, ht] at HD
      go_enter Tryz.func79, Tryz.ntmps79
      go_wp2_with fail
      go_ret
      exact ⟨by rw [HD.out]; rfl, HB0.out⟩
    · rw [hk, ht] at HD
      cases R with
      | false =>
        go_enter Tryz.func79, Tryz.ntmps79
        go_wp2_with fail
        refine (HI1.out _ HB0.out).mono ?_; rintro e w1 ⟨rfl, b1⟩
        have HB1 := Lib.hid (HB0.out.trans (b1.mono (by simp; omega)))
        clear b1
        go_wp2_with fail
        go_ret
        exact ⟨by rw [HD.out]; rfl, HB1.out⟩
      | true =>
        go_enter Tryz.func79, Tryz.ntmps79
        go_wp2_with fail
        refine (HI1.out _ HB0.out).mono ?_; rintro e w1 ⟨rfl, b1⟩
        have HB1 := Lib.hid (HB0.out.trans (b1.mono (by simp; omega)))
        have p0 : w1.cell? ⟨w.heap.size, 2, none⟩ = some (.slice B x.nums.length cb) := by rw [b1.cell (by simp; omega)]; simp [go_sem]
        have p1 : w1.cell? ⟨w.heap.size + 1, 2, none⟩ = some (.slice D y.nums.length cd) := by rw [b1.cell (by simp)]; simp [go_sem]
        clear b1
        go_wp2_with fail
        refine (HI2.out _ HB1.out).mono ?_; rintro e w2 ⟨rfl, b2⟩
        have HB2 := Lib.hid (HB1.out.trans (b2.mono (HB1.out.size)))
        clear b2
        go_wp2_with fail
        go_ret
        exact ⟨by rw [HD.out]; rfl, HB2.out⟩
end Go.Proofs.YtjgjacihdggimaaGreatDoor
namespace Go.Proofs.YtjgjacihdggimaaGreatDoor
open Go.RowKit
theorem Kept.frozen {w w' : World} {P : Nat → Prop} (h : Kept w w' P) {p : Addr} (hp : P p.block) (hl : p.block < w.heap.size) (hv : w.frozen? p = false) : w'.frozen? p = false := by
  rw [World.frozen?_of_block (w := w) (h.block p.block hp hl)]; exact hv
end Go.Proofs.YtjgjacihdggimaaGreatDoor
namespace Go.Proofs.YtjgjacihdggimaaGreatDoor
open Go.RowKit
structure RM (w : World) (P : Nat → Prop) (m gN cN gB cB room : Nat) (nds : List Nd) (bs : List Bool) : Prop where
  c0 : w.cell? ⟨m, 0, none⟩ = some (.int .i64 (room : Int))
  c1 : w.cell? ⟨m, 1, none⟩ = some (.slice (some ⟨gN, 0, none⟩) nds.length cN)
  c2 : w.cell? ⟨m, 2, none⟩ = some (.slice (some ⟨gB, 0, none⟩) bs.length cB)
  fM : ∀ j, w.frozen? ⟨m, j, none⟩ = false
  fN : ∀ j, w.frozen? ⟨gN, j, none⟩ = false
  fB : ∀ j, w.frozen? ⟨gB, j, none⟩ = false
  pM : P m
  pN : P gN
  pB : P gB
  nMN : m ≠ gN
  nMB : m ≠ gB
  nNB : gN ≠ gB
  lN : gN < w.heap.size
  lB : gB < w.heap.size
  rows : ∀ (i : Nat) (n : Nd), nds[i]? = some n → ∃ B cb C cc, At4 w gN (i * 4) n B cb C cc ∧ RowI w (fun g => P g ∧ g ≠ m ∧ g ≠ gN ∧ g ≠ gB) B n.refs ∧ RowI w (fun g => P g ∧ g ≠ m ∧ g ≠ gN ∧ g ≠ gB) C n.nums
  bits : ∀ (i : Nat) (b : Bool), bs[i]? = some b → w.cell? ⟨gB, i, none⟩ = some (.bool b)
  len : nds.length = bs.length
  one : 1 ≤ bs.length
  cap : bs.length ≤ room + 1
  small : room ≤ 65536
  wide : ∀ n ∈ nds, n.refs.length ≤ 1000000 ∧ n.nums.length ≤ 1000000
  room' : nds.length ≤ cN
section
variable {w w' : World} {P : Nat → Prop} {m gN cN gB cB room : Nat} {nds : List Nd} {bs : List Bool}
theorem RM.lM (h : RM w P m gN cN gB cB room nds bs) : m < w.heap.size := Lib.lt_of_cell h.c0
theorem RM.kept (h : RM w P m gN cN gB cB room nds bs) (hk : Kept w w' P) : RM w' P m gN cN gB cB room nds bs where
  c0 := hk.cell h.pM h.c0
  c1 := hk.cell h.pM h.c1
  c2 := hk.cell h.pM h.c2
  fM := fun j => hk.frozen h.pM h.lM (h.fM j)
  fN := fun j => hk.frozen h.pN h.lN (h.fN j)
  fB := fun j => hk.frozen h.pB h.lB (h.fB j)
  pM := h.pM
  pN := h.pN
  pB := h.pB
  nMN := h.nMN
  nMB := h.nMB
  nNB := h.nNB
  lN := Nat.lt_of_lt_of_le h.lN hk.size
  lB := Nat.lt_of_lt_of_le h.lB hk.size
  rows := fun i n hi => by
    obtain ⟨B, cb, C, cc, h4, hr, hn⟩ := h.rows i n hi
    have hk' : Kept w w' (fun g => P g ∧ g ≠ m ∧ g ≠ gN ∧ g ≠ gB) := ⟨hk.size, fun g hg hl => hk.block g hg.1 hl⟩
    exact ⟨B, cb, C, cc, h4.kept hk h.pN, hr.kept hk', hn.kept hk'⟩
  bits := fun i b hi => hk.cell h.pB (h.bits i b hi)
  len := h.len
  one := h.one
  cap := h.cap
  small := h.small
  wide := h.wide
  room' := h.room'
theorem RM.below (h : RM w P m gN cN gB cB room nds bs) (hb : Below w.heap.size w w') : RM w' P m gN cN gB cB room nds bs := h.kept (Kept.of_below hb)
set_option maxHeartbeats 2000000 in
set_option maxRecDepth 10000 in
theorem rHas_any (h : RM w P m gN cN gB cB room nds bs) (r : Int) :
    Calls Tryz.prog 60 #[.pointer (some ⟨m, 0, none⟩), .int .i64 r] w fun e w' => e = .returned (.bool (live (stOf nds bs) r)) ∧ w' = w := by
  have HL := Lib.hid (st_live' h.len r)
  have c2 := h.c2
  have hcap := h.cap
  have hsm := h.small
  have HB := Lib.hid h.bits
  generalize live (stOf nds bs) r = V at *
  by_cases h1 : 1 ≤ r
  · have d1 : decide (1 ≤ r) = true := decide_eq_true h1
    by_cases h2 : r < bs.length
    · have d2 : decide (r < (bs.length : Int)) = true := decide_eq_true h2
      obtain ⟨i, rfl⟩ : ∃ i : Nat, r = (i : Int) := ⟨r.toNat, by omega⟩
      have hi : i < bs.length := by omega
      obtain ⟨b, hb⟩ : ∃ b, bs[i]? = some b := ⟨_, List.getElem?_eq_getElem hi⟩
      have q0 := HB.out i b hb
      have hv := HL.out
      rw [d1, d2, show ((i : Int)).toNat = i by omega, hb] at hv
      have HV : Hid (V = b) := Lib.hid hv
      clear hv hb h
      go_enter Tryz.func60, Tryz.ntmps60
      go_wp2_with fail
      go_ret
      exact ⟨by rw [HV.out]; rfl, rfl⟩
    · have d2 : decide (r < (bs.length : Int)) = false := decide_eq_false h2
      have hv := HL.out
      rw [d1, d2] at hv
      have HV : Hid (V = false) := Lib.hid hv
      clear hv h
      go_enter Tryz.func60, Tryz.ntmps60
      go_wp2_with fail
      go_ret
      exact ⟨by rw [HV.out]; rfl, rfl⟩
  · have d1 : decide (1 ≤ r) = false := decide_eq_false h1
    have hv := HL.out
    rw [d1] at hv
    have HV : Hid (V = false) := Lib.hid hv
    clear hv h
    go_enter Tryz.func60, Tryz.ntmps60
    go_wp2_with fail
    go_ret
    exact ⟨by rw [HV.out]; rfl, rfl⟩
end
end Go.Proofs.YtjgjacihdggimaaGreatDoor
namespace Go.Proofs.YtjgjacihdggimaaGreatDoor
open Go.RowKit
theorem fnd_not {s : Sh} {x : Nd} {i : Nat} {o : Option Nd} (ho : s[i]? = some o) (h : ∀ j : Nat, j < i → s[j]? ≠ some (some x)) (hn : o ≠ some x) : ∀ j : Nat, j < i + 1 → s[j]? ≠ some (some x) := fun j hj e => by
  by_cases hji : j = i
  · subst hji; rw [ho] at e; exact hn (Option.some.inj e)
  · exact h j (by omega) e
theorem fnd_end {s : Sh} {x : Nd} (h : ∀ j : Nat, j < s.length → s[j]? ≠ some (some x)) : fnd s x = 0 := fnd_none fun j e => h j (List.getElem?_eq_some_iff.1 e).1 e
section
variable {w w' : World} {P : Nat → Prop} {m gN cN gB cB room : Nat} {nds : List Nd} {bs : List Bool}
set_option maxHeartbeats 4000000 in
set_option maxRecDepth 10000 in
theorem rFind_any (h : RM w P m gN cN gB cB room nds bs) (x : Nd) (Q : Nat → Prop) (A B : Option Addr) (ca cb : Nat) (hA : RowI w Q A x.refs) (hB : RowI w Q B x.nums) :
    Calls Tryz.prog 63 #[.pointer (some ⟨m, 0, none⟩), ndV x A ca B cb] w fun e w' => e = .returned (.int .i64 (fnd (stOf nds bs) x : Int)) ∧ Below w.heap.size w w' := by
  have HR := Lib.hid h
  have HA := Lib.hid hA
  have HB := Lib.hid hB
  have hcap := h.cap
  have hsm := h.small
  have hone := h.one
  have HLn := Lib.hid (st_len h.len)
  have hlen := Lib.hid h.len
  clear h hA hB
  unfold ndV
  go_enter Tryz.func63, Tryz.ntmps63
  go_wp2_with fail
  go_loopw [5, 6] (fun vi _ wr => ∃ i : Nat, i + 1 ≤ bs.length ∧ vi = .int .i64 ((i : Int) + 1) ∧ Hid (∀ j : Nat, j < i → (stOf nds bs)[j]? ≠ some (some x)) ∧ Below (w.heap.size + 1) (w.alloc (.cells #[.int .i64 x.kind, .slice A x.refs.length ca, .slice B x.nums.length cb, .string ⟨x.text.toArray⟩] 110)) wr) (fun vi _ _ => bs.length - (RowKit.intOf vi).toNat)
  case atStart => exact ⟨0, by omega, rfl, Lib.hid (fun j hj => absurd hj (by omega)), Below.refl _ _⟩
  case round =>
    obtain ⟨i, hi, rfl, HT, hb⟩ := hrel
    have p0 : wr.cell? ⟨w.heap.size, 0, none⟩ = some (.int .i64 x.kind) := by rw [hb.cell (by simp)]; simp [go_sem]
    have p1 : wr.cell? ⟨w.heap.size, 1, none⟩ = some (.slice A x.refs.length ca) := by rw [hb.cell (by simp)]; simp [go_sem]
    have p2 : wr.cell? ⟨w.heap.size, 2, none⟩ = some (.slice B x.nums.length cb) := by rw [hb.cell (by simp)]; simp [go_sem]
    have p3 : wr.cell? ⟨w.heap.size, 3, none⟩ = some (.string ⟨x.text.toArray⟩) := by rw [hb.cell (by simp)]; simp [go_sem]
    have b0 : Below w.heap.size w wr := ((Below.refl _ _).alloc (Nat.le_refl _) _).trans (hb.mono (by omega))
    have hr := HR.out.below b0
    have c1 := hr.c1
    have c2 := hr.c2
    by_cases hlt : i + 1 < bs.length
    · obtain ⟨b, hbb⟩ : ∃ b, bs[i + 1]? = some b := ⟨_, List.getElem?_eq_getElem hlt⟩
      obtain ⟨y, hy⟩ : ∃ y, nds[i + 1]? = some y := ⟨_, List.getElem?_eq_getElem (hlen.out ▸ hlt)⟩
      have q0 := hr.bits _ _ hbb
      have hst := Lib.hid (st_at i hy hbb)
      cases b with
      | false =>
        have HN := Lib.hid (fnd_not hst.out HT.out (fun e => by cases e))
        clear hbb hy hr
        go_wp2_with fail
        go_roundw
        case rel => exact ⟨i + 1, by omega, by go_num, HN, hb⟩
        case measure => simp [RowKit.intOf]; omega
      | true =>
        obtain ⟨C, cc, D, cd, ⟨r0, r1, r2, r3⟩, hC, hD⟩ := hr.rows _ _ hy
        have hw := hr.wide y (List.mem_of_getElem? hy)
        have HS := Lib.hid (rndsame_any y x C D A B cc cd ca cb wr.drew _ _ (hC.below (Below.drew (Below.refl _ _))) (hD.below (Below.drew (Below.refl _ _))) (HA.out.below (Below.drew b0)) (HB.out.below (Below.drew b0)) (by unfold maxLen; omega) (by unfold maxLen; omega))
        unfold ndV at HS
        have HY : Hid (y = x → (stOf nds bs)[i]? = some (some x)) := Lib.hid fun e => by rw [hst.out, e]; rfl
        have HNo : Hid (y ≠ x → ∀ j : Nat, j < i + 1 → (stOf nds bs)[j]? ≠ some (some x)) := Lib.hid fun e => fnd_not hst.out HT.out (fun e' => e (Option.some.inj e'))
        have HD := Lib.hid (Iff.rfl : y = x ↔ y = x)
        have hltN : i + 1 < nds.length := hlen.out ▸ hlt
        have hltI : (i : Int) + 1 < (nds.length : Int) := by omega
        have hltJ : (0 : Int) ≤ (i : Int) + 1 := by omega
        clear hbb hy hr hC hD hst
        go_wp2_with fail
        go_region_held3 (fun w' => w'.cell? ⟨m, 1, none⟩ = some (.slice (some ⟨gN, 0, none⟩) nds.length cN) ∧ w'.cell? ⟨gN, (i + 1) * 4, none⟩ = some (.int .i64 y.kind) ∧ w'.cell? ⟨gN, (i + 1) * 4 + 1, none⟩ = some (.slice C y.refs.length cc) ∧ w'.cell? ⟨gN, (i + 1) * 4 + 2, none⟩ = some (.slice D y.nums.length cd) ∧ w'.cell? ⟨gN, (i + 1) * 4 + 3, none⟩ = some (.string ⟨y.text.toArray⟩) ∧ w'.cell? ⟨w.heap.size, 0, none⟩ = some (.int .i64 x.kind) ∧ w'.cell? ⟨w.heap.size, 1, none⟩ = some (.slice A x.refs.length ca) ∧ w'.cell? ⟨w.heap.size, 2, none⟩ = some (.slice B x.nums.length cb) ∧ w'.cell? ⟨w.heap.size, 3, none⟩ = some (.string ⟨x.text.toArray⟩))
          (first | (simp only [World.cell?_drew]; with_reducible exact ⟨c1, r0, r1, r2, r3, p0, p1, p2, p3⟩) | with_reducible exact ⟨mc1, mr0, mr1, mr2, mr3, mp0, mp1, mp2, mp3⟩ | fail)
          (first
          | (go_at_call 79; refine HS.out.mono ?_; rintro e w1 ⟨rfl, b1'⟩
             have b1 : Below wr.heap.size wr w1 := (Below.refl _ wr).drew.trans b1'
             have mc1 := keep_cell b1 c1
             have mr0 := keep_cell b1 r0
             have mr1 := keep_cell b1 r1
             have mr2 := keep_cell b1 r2
             have mr3 := keep_cell b1 r3
             have mp0 := keep_cell b1 p0
             have mp1 := keep_cell b1 p1
             have mp2 := keep_cell b1 p2
             have mp3 := keep_cell b1 p3)
          | fail)
        have hb1 := hb.trans (b1.mono (by have := hb.size; simpa using this))
        clear b1 b1' r0 r1 r2 r3 p0 p1 p2 p3 c1 c2 mc1 mr0 mr1 mr2 mr3 mp0 mp1 mp2 mp3
        by_cases e : y = x
        · have HE : Hid (fnd (stOf nds bs) x = i + 1) := Lib.hid (fnd_at (HY.out e) HT.out)
          rw [decide_eq_true e]
          clear e
          go_wp2_with fail
          go_ret
          exact ⟨by rw [HE.out]; rfl, ((Below.refl _ _).alloc (Nat.le_refl _) _).trans (hb1.mono (by omega))⟩
        · have HN := Lib.hid (HNo.out e)
          rw [decide_eq_false e]
          clear e
          go_wp2_with fail
          go_roundw
          case rel => exact ⟨i + 1, by omega, by go_num, HN, hb1⟩
          case measure => simp [RowKit.intOf]; omega
    · have HZ : Hid (fnd (stOf nds bs) x = 0) := Lib.hid (fnd_end fun j hj => HT.out j (by rw [HLn.out] at hj; omega))
      clear hr
      go_wp2_with fail
      go_ret
      exact ⟨by rw [HZ.out]; rfl, b0⟩
end
end Go.Proofs.YtjgjacihdggimaaGreatDoor
namespace Go.Proofs.YtjgjacihdggimaaGreatDoor
open Go.RowKit
theorem some_ne {v : Value} {g k : Nat} (hv : v.ownBlock = some g) (h : k ≠ g) : some k ≠ v.ownBlock := fun e => h (own_of hv e.symm)
theorem bool_info : (Tryz.prog.info? 4).map (fun i => (i.zero, i.size, i.bytes)) = some (some (.bool false), 1, 1) := by kernel_rfl
theorem rnode_info : (Tryz.prog.info? 110).map (fun i => (i.zero, i.size, i.bytes)) = some (some (.agg #[.int .i64 0, .slice none 0 0, .slice none 0 0, .string ⟨#[]⟩]), 4, 72) := by kernel_rfl
theorem boV_one : ∀ q : Bool, ∀ u ∈ boV q, u.oneCell' = true := by
  intro q u hu
  simp only [boV, List.mem_cons, List.not_mem_nil, or_false] at hu
  subst hu; rfl
theorem ndW_one : ∀ q : NdM, ∀ u ∈ ndW q, u.oneCell' = true := by
  intro q u hu
  simp only [ndW, List.mem_cons, List.not_mem_nil, or_false] at hu
  rcases hu with rfl | rfl | rfl | rfl <;> rfl
theorem grown_set (w : World) (p : Addr) (u : Value) : w.grownBy (w.setCell p u) (some p.block) := by
  have hb := (Below.refl 0 w).setCell (p := p) (Nat.zero_le _) u
  exact ⟨hb.os, hb.tape, hb.output, hb.size, fun k _ hk => Below.heap_setCell w p u k fun e => hk (by rw [e])⟩
def ndM0 : NdM := ⟨nd0, none, 0, none, 0⟩
theorem own_room {E : TypeId} {n base N cap g : Nat} {α : Type} {f : α → List Value} {w : World} {L : List α} (h : OwnR E n f base w (.slice (some ⟨g, 0, none⟩) N cap) L) : N ≤ cap := by
  rcases h.2 with ⟨e, _⟩ | ⟨g', cap', cur, hv, _, hh, hc, _, _, ht⟩
  · cases e
  · simp at hv
    obtain ⟨rfl, rfl, rfl⟩ := hv
    exact hc
section
variable {w w' : World} {P : Nat → Prop} {m gN cN gB cB room : Nat} {nds : List Nd} {bs : List Bool}
theorem RM.mc (h : RM w P m gN cN gB cB room nds bs) : MC w m room (.slice (some ⟨gN, 0, none⟩) nds.length cN) (.slice (some ⟨gB, 0, none⟩) bs.length cB) := ⟨h.c0, h.c1, h.c2, h.fM⟩
theorem full_at {i : Nat} (hno : ∀ j : Nat, (stOf nds bs)[j]? ≠ some none) (hl : nds.length = bs.length) (hi : i + 1 < bs.length) : bs[i + 1]? = some true := by
  have h1 := List.getElem?_eq_getElem (l := bs) hi
  have h2 := List.getElem?_eq_getElem (l := nds) (i := i + 1) (by omega)
  rw [h1]
  cases hb : bs[i + 1] with
  | true => rfl
  | false => exact absurd (st_at i h2 (by rw [h1, hb])) (hno i)
set_option maxHeartbeats 8000000 in
set_option maxRecDepth 10000 in
theorem rfree_grow (h : RM w P m gN cN gB cB room nds bs) (hno : ∀ j : Nat, (stOf nds bs)[j]? ≠ some none) (hr : bs.length ≤ room) :
    Calls Tryz.prog 72 #[.pointer (some ⟨m, 0, none⟩)] w fun e w' => ∃ gN' cN' gB' cB', e = .returned (.int .i64 (bs.length : Int)) ∧ RM w' (fun g => P g ∨ w.heap.size ≤ g) m gN' cN' gB' cB' room (nds ++ [nd0]) (bs ++ [false]) ∧ ButS (fun g => g = m) w w' ∧ w.heap.size ≤ gN' ∧ w.heap.size ≤ gB' := by
  obtain ⟨i0, hi0, hz0, hz1, hz2⟩ := info_parts bool_info
  obtain ⟨i1, hi1, hy0, hy1, hy2⟩ := info_parts rnode_info
  have HR := Lib.hid h
  have hcap := h.cap
  have hsm := h.small
  have hone := h.one
  have hlen := Lib.hid h.len
  have HF := Lib.hid (fun i hi => full_at (i := i) hno h.len hi)
  clear h hno
  go_enter Tryz.func72, Tryz.ntmps72
  go_wp2_with fail
  go_loopw [3] (fun vi wr => ∃ i : Nat, i + 1 ≤ bs.length ∧ vi = .int .i64 ((i : Int) + 1) ∧ wr = w) (fun vi _ => bs.length - (RowKit.intOf vi).toNat)
  case atStart => exact ⟨0, by omega, rfl, rfl⟩
  case round =>
    obtain ⟨i, hi, rfl, rfl⟩ := hrel
    have c0 := HR.out.c0
    have c1 := HR.out.c1
    have c2 := HR.out.c2
    by_cases hlt : i + 1 < bs.length
    · have q0 := HR.out.bits _ _ (HF.out i hlt)
      go_wp2_with fail
      go_roundw
      case rel => exact ⟨i + 1, by omega, by go_num, trivial⟩
      case measure => simp [RowKit.intOf]; omega
    · have hd : decide (room < bs.length) = false := decide_eq_false (by omega)
      go_wp2_with fail
      go_quiet (fail)
      have hD : Below wr.heap.size wr (wr.drewN nq) := below_drewN (Below.refl _ _) nq
      have HR1 := Lib.hid (HR.out.below hD)
      have HT1 : Hid (ButS (fun g => g = m) wr (wr.drewN nq)) := Lib.hid (ButS.of_below hD)
      have zs : (wr.drewN nq).heap.size = wr.heap.size := Nat.le_antisymm (by simp) hD.size
      have HZ := Lib.hid zs
      clear c0 c1 c2 hD zs
      generalize wr.drewN nq = W1 at *
      have c1 := HR1.out.c1
      have c2 := HR1.out.c2
      have zm := HR1.out.lM
      have HB1 := Lib.hid (atR_bits HR1.out.bits)
      obtain ⟨L, hLn, hLa, hLr⟩ := rows_list HR1.out.rows
      have HL1 := Lib.hid (And.intro hLn (And.intro (atR_rows hLa) hLr))
      have hLl : L.length = nds.length := by rw [← hLn, List.length_map]
      have HLl := Lib.hid hLl
      clear hLn hLa hLr hLl HR
      have hB : Below W1.heap.size W1 (W1.alloc (.cells #[] 4)) := (Below.refl _ _).alloc (Nat.le_refl _) _
      have HBB := Lib.hid hB
      clear hB
      go_wp2_with (at_builtin; refine of_stop ?_)
      refine stop_of ?_
      refine wpList_append_rows (f := boV) (n := 1) (E := 4) (nb := 1) rfl _ _ rfl rfl (own_lit0 W1 W1.heap.size (Nat.le_refl _)) rfl (fun i b hi j u hj => keep_cell HBB.out (HB1.out i b hi j u hj)) (by omega) (N := bs.length) (by simp) (Z := bs) rfl Tryz.underlying66 hi0 hz0 hz1 hz2 rfl (by decide) (by decide) (fun _ => rfl) boV_one (by omega) (by simp) ?_
      intro g1 k1 w2 ho2 hg2 hat2 hl2
      have ho2 := Lib.hid ho2
      have hz2' : W1.heap.size ≤ g1 := by rcases hat2 with e | e; exact Nat.le_of_eq (own_of (g := W1.heap.size) rfl e).symm; simp at e; omega
      have HM2 := Lib.hid ((HR1.out.mc.alloc (.cells #[] 4)).grown hg2 (some_ne (g := W1.heap.size) rfl (by omega)))
      have HT2 := Lib.hid ((HT1.out.alloc (.cells #[] 4)).grown hg2 (fun k hk => .inr (by have := own_of (g := W1.heap.size) rfl hk; have := HZ.out; omega)))
      have HG2 : Hid (Below W1.heap.size W1 w2) := Lib.hid (HBB.out.grown hg2 (by simp) (fun k hk => by have := own_of (g := W1.heap.size) rfl hk; omega))
      clear hg2 hat2 c1 c2
      have zg2 : W1.heap.size ≤ w2.heap.size := HG2.out.size
      go_wp2_with (at_builtin; refine of_stop ?_)
      refine stop_of ?_
      refine wpList_append_rows (f := boV) (n := 1) (E := 4) (nb := 1) rfl _ _ rfl rfl (OwnR.below ho2.out ((Below.refl _ _).alloc (Nat.le_refl _) _)) (L2 := [false]) rfl (one_row w2 false) (by decide) (N := bs.length + 1) rfl (Z := bs ++ [false]) rfl Tryz.underlying66 hi0 hz0 hz1 hz2 rfl (by decide) (by decide) (fun _ => rfl) boV_one (by omega) (by simp; omega) ?_
      intro g3 k3 w3 ho3 hg3 hat3 hl3
      have ho3 := Lib.hid ho3
      have hz3 : W1.heap.size ≤ g3 := by rcases hat3 with e | e; exact (by have := own_of (g := g1) rfl e; omega); simp at e; omega
      have HM3 := Lib.hid ((HM2.out.alloc (.cells #[.bool false] 4)).grown hg3 (some_ne (g := g1) rfl (by omega)))
      have HT3 := Lib.hid ((HT2.out.alloc (.cells #[.bool false] 4)).grown hg3 (fun k hk => .inr (by have := own_of (g := g1) rfl hk; have := HZ.out; omega)))
      have HG3 : Hid (Below W1.heap.size W1 w3) := Lib.hid ((HG2.out.alloc zg2 (.cells #[.bool false] 4)).grown hg3 (by simp; omega) (fun k hk => by have := own_of (g := g1) rfl hk; omega))
      have zg3 : W1.heap.size ≤ w3.heap.size := HG3.out.size
      clear hg3 hat3
      have d1 := HM3.out.c1
      have d2 := HM3.out.c2
      have dF := HM3.out.fM 2
      have zm3 := HM3.out.lt
      go_wp2_with (at_builtin; refine of_stop ?_)
      have HMs := Lib.hid (HM3.out.set2 (.slice (some ⟨g3, 0, none⟩) (bs.length + 1) k3))
      have HTs : Hid (ButS (fun g => g = m) wr (w3.setCell ⟨m, 2, none⟩ (.slice (some ⟨g3, 0, none⟩) (bs.length + 1) k3))) := Lib.hid (HT3.out.setCell (.inl rfl) _)
      have HWs : Hid (ButS (fun g => g = m) W1 (w3.setCell ⟨m, 2, none⟩ (.slice (some ⟨g3, 0, none⟩) (bs.length + 1) k3))) := Lib.hid ((ButS.of_below (P := fun g => g = m) HG3.out).setCell (p := ⟨m, 2, none⟩) (.inl rfl) _)
      have HOs : Hid (OwnR 4 1 boV W1.heap.size (w3.setCell ⟨m, 2, none⟩ (.slice (some ⟨g3, 0, none⟩) (bs.length + 1) k3)) (.slice (some ⟨g3, 0, none⟩) (bs.length + 1) k3) (bs ++ [false])) := Lib.hid (World.ownsRow.kept ho3.out (grown_set _ _ _) (.inr (fun e => absurd (own_of (g := g3) (k := m) rfl e) (by omega))))
      have zg4 := HWs.out.size
      have hW4 : (w3.setCell ⟨m, 2, none⟩ (.slice (some ⟨g3, 0, none⟩) (bs.length + 1) k3)).heap.size = w3.heap.size := by simp
      clear d1 d2 dF HM3 HT3 HG3 ho3 HM2 HT2 HG2 ho2
      generalize w3.setCell ⟨m, 2, none⟩ (.slice (some ⟨g3, 0, none⟩) (bs.length + 1) k3) = W4 at *
      rw [← hW4]
      clear hW4
      have zg3W : g3 < W4.heap.size := by have := (World.ownsRow.lt HOs.out g3 rfl).2; exact this
      refine stop_of ?_
      refine wpList_append_rows (f := ndW) (n := 4) (E := 110) (nb := 72) (X := ([] : List NdM)) (base := W4.heap.size) rfl _ _ rfl rfl (own_lit0 W4 W4.heap.size (Nat.le_refl _)) (L2 := L) (by rw [HLl.out]; rfl) (fun i q hi j u hj => (HWs.out.alloc _).cell (fun e => absurd e HR1.out.nMN.symm) (HL1.out.2.1 i q hi j u hj)) (by rw [HLl.out, hlen.out]; omega) (N := nds.length) (by rw [HLl.out]; simp) (Z := L) rfl Tryz.underlying65 hi1 hy0 hy1 hy2 rfl (by decide) (by decide) (fun _ => rfl) ndW_one (by rw [hlen.out]; omega) (by simp) ?_
      intro g5 k5 w5 ho5 hg5 hat5 hl5
      have ho5 := Lib.hid ho5
      have hz5 : W4.heap.size ≤ g5 := by rcases hat5 with e | e; exact Nat.le_of_eq (own_of (g := W4.heap.size) rfl e).symm; simp at e; omega
      have zm4 := HMs.out.lt
      have HM5 := Lib.hid ((HMs.out.alloc (.cells #[] 110)).grown hg5 (some_ne (g := W4.heap.size) rfl (by omega)))
      have HG5 : Hid (Below W4.heap.size W4 w5) := Lib.hid (((Below.refl _ _).alloc (Nat.le_refl _) (.cells #[] 110)).grown hg5 (by simp) (fun k hk => by have := own_of (g := W4.heap.size) rfl hk; omega))
      have zg5 := HG5.out.size
      clear hg5 hat5
      go_wp2_with (at_builtin; refine of_stop ?_)
      refine stop_of ?_
      refine wpList_append_rows (f := ndW) (n := 4) (E := 110) (nb := 72) rfl _ _ rfl rfl (OwnR.below ho5.out ((Below.refl _ _).alloc (Nat.le_refl _) _)) (L2 := [ndM0]) rfl (one_row w5 ndM0) (by decide) (N := nds.length + 1) (by rw [HLl.out]; rfl) (Z := L ++ [ndM0]) rfl Tryz.underlying65 hi1 hy0 hy1 hy2 rfl (by decide) (by decide) (fun _ => rfl) ndW_one (by rw [hlen.out]; omega) (by simp; omega) ?_
      intro g6 k6 w6 ho6 hg6 hat6 hl6
      have ho6 := Lib.hid ho6
      have hz6 : W4.heap.size ≤ g6 := by rcases hat6 with e | e; exact (by have := own_of (g := g5) rfl e; omega); simp at e; omega
      have HM6 := Lib.hid ((HM5.out.alloc (.cells (ndW ndM0).toArray 110)).grown hg6 (some_ne (g := g5) rfl (by omega)))
      have HG6 : Hid (Below W4.heap.size W4 w6) := Lib.hid ((HG5.out.alloc zg5 (.cells (ndW ndM0).toArray 110)).grown hg6 (by simp; omega) (fun k hk => by have := own_of (g := g5) rfl hk; omega))
      clear hg6 hat6
      have d1 := HM6.out.c1
      have d2 := HM6.out.c2
      have dF := HM6.out.fM 1
      have zm6 := HM6.out.lt
      go_wp2_with fail
      go_ret
      have hk3 : Below W4.heap.size W4 w6 := HG6.out
      refine ⟨g6, k6, g3, k3, rfl, ?_, (HTs.out.trans (ButS.of_below hk3)).setCell (.inl rfl) _, by have := HZ.out; omega, by have := HZ.out; omega⟩
      have hmc := HM6.out.set1 (.slice (some ⟨g6, 0, none⟩) (nds.length + 1) k6)
      have hW7 : ButS (fun g => g = m) W1 (w6.setCell ⟨m, 1, none⟩ (.slice (some ⟨g6, 0, none⟩) (nds.length + 1) k6)) := (HWs.out.trans (ButS.of_below hk3)).setCell (.inl rfl) _
      have hz := HZ.out
      have hlN := HR1.out.lN
      have hob : OwnR 4 1 boV W1.heap.size (w6.setCell ⟨m, 1, none⟩ (.slice (some ⟨g6, 0, none⟩) (nds.length + 1) k6)) (.slice (some ⟨g3, 0, none⟩) (bs.length + 1) k3) (bs ++ [false]) := World.ownsRow.kept (OwnR.below HOs.out hk3) (grown_set _ _ _) (.inr (fun e => absurd (own_of (g := g3) (k := m) rfl e) (by omega)))
      have hon : OwnR 110 4 ndW W4.heap.size (w6.setCell ⟨m, 1, none⟩ (.slice (some ⟨g6, 0, none⟩) (nds.length + 1) k6)) (.slice (some ⟨g6, 0, none⟩) (nds.length + 1) k6) (L ++ [ndM0]) := World.ownsRow.kept ho6.out (grown_set _ _ _) (.inr (fun e => absurd (own_of (g := g6) (k := m) rfl e) (by omega)))
      have hLr : ∀ q ∈ L ++ [ndM0], RowI (w6.setCell ⟨m, 1, none⟩ (.slice (some ⟨g6, 0, none⟩) (nds.length + 1) k6)) (fun g => (P g ∨ wr.heap.size ≤ g) ∧ g ≠ m ∧ g ≠ g6 ∧ g ≠ g3) q.A q.n.refs ∧ RowI (w6.setCell ⟨m, 1, none⟩ (.slice (some ⟨g6, 0, none⟩) (nds.length + 1) k6)) (fun g => (P g ∨ wr.heap.size ≤ g) ∧ g ≠ m ∧ g ≠ g6 ∧ g ≠ g3) q.B q.n.nums := by
        intro q hq
        rcases List.mem_append.1 hq with hq | hq
        · obtain ⟨r1, r2⟩ := HL1.out.2.2 q hq
          have hmo : ∀ g, (P g ∧ g ≠ m ∧ g ≠ gN ∧ g ≠ gB) → g < W1.heap.size → (P g ∨ wr.heap.size ≤ g) ∧ g ≠ m ∧ g ≠ g6 ∧ g ≠ g3 := fun g hg hl => ⟨.inl hg.1, hg.2.1, by omega, by omega⟩
          have hkq : Kept W1 (w6.setCell ⟨m, 1, none⟩ (.slice (some ⟨g6, 0, none⟩) (nds.length + 1) k6)) (fun g => (P g ∨ wr.heap.size ≤ g) ∧ g ≠ m ∧ g ≠ g6 ∧ g ≠ g3) := hW7.keptQ fun g hg => hg.2.1
          exact ⟨(r1.mono hmo).kept hkq, (r2.mono hmo).kept hkq⟩
        · obtain rfl : q = ndM0 := by simpa using hq
          exact ⟨.inl rfl, .inl rfl⟩
      have e1 : (nds ++ [nd0]).length = nds.length + 1 := by simp
      have e2 : (bs ++ [false]).length = bs.length + 1 := by simp
      have eL : (L ++ [ndM0]).map NdM.n = nds ++ [nd0] := by rw [List.map_append, HL1.out.1]; rfl
      have h7 := (World.ownsRow.lt hon g6 rfl).2
      have h8 := (World.ownsRow.lt hob g3 rfl).2
      exact ⟨hmc.c0, by rw [e1]; exact hmc.c1, by rw [e2]; exact hmc.c2, hmc.fM, World.ownsRow.frozenAt (by have := hon; unfold OwnR at this; rwa [show (L ++ [ndM0]).length = nds.length + 1 by rw [List.length_append, HLl.out]; rfl] at this), World.ownsRow.frozenAt (by have := hob; unfold OwnR at this; rwa [e2] at this), .inl HR1.out.pM, .inr (by omega), .inr (by omega), by omega, by omega, by omega, h7, h8,
        by rw [← eL]; exact list_rows (rows_atR (OwnR.at (fun _ => rfl) hon (by rw [List.length_append, HLl.out]; rfl))) hLr, bits_atR (OwnR.at (fun _ => rfl) hob e2.symm), by rw [e1, e2, hlen.out], by omega, by omega, hsm,
        fun n hn => by
          rcases List.mem_append.1 hn with hn | hn
          · exact HR1.out.wide n hn
          · obtain rfl : n = nd0 := by simpa using hn
            exact ⟨by decide, by decide⟩,
        by have hc := own_room hon; rw [e1]; exact hc⟩
set_option maxHeartbeats 4000000 in
set_option maxRecDepth 10000 in
theorem rfree_found (h : RM w P m gN cN gB cB room nds bs) {k : Nat} (hk : (stOf nds bs)[k]? = some none) (hno : ∀ j : Nat, j < k → (stOf nds bs)[j]? ≠ some none) :
    Calls Tryz.prog 72 #[.pointer (some ⟨m, 0, none⟩)] w fun e w' => e = .returned (.int .i64 ((k : Int) + 1)) ∧ w' = w := by
  have HR := Lib.hid h
  have hcap := h.cap
  have hsm := h.small
  have hkl : k + 1 < bs.length := by have := (List.getElem?_eq_some_iff.1 hk).1; rw [st_len h.len] at this; omega
  have hkf : bs[k + 1]? = some false := by
    have h1 := List.getElem?_eq_getElem (l := bs) hkl
    have h2 := List.getElem?_eq_getElem (l := nds) (i := k + 1) (by have := h.len; omega)
    rw [h1]
    cases hb : bs[k + 1] with
    | false => rfl
    | true => have := st_at k h2 (by rw [h1, hb]); rw [hk] at this; cases this
  have HF : Hid (∀ i, i < k → bs[i + 1]? = some true) := Lib.hid fun i hi => by
    have h1 := List.getElem?_eq_getElem (l := bs) (i := i + 1) (by omega)
    have h2 := List.getElem?_eq_getElem (l := nds) (i := i + 1) (by have := h.len; omega)
    rw [h1]
    cases hb : bs[i + 1] with
    | true => rfl
    | false => exact absurd (st_at i h2 (by rw [h1, hb])) (hno i hi)
  clear h hno hk
  go_enter Tryz.func72, Tryz.ntmps72
  go_wp2_with fail
  go_loopw [3] (fun vi wr => ∃ i : Nat, i ≤ k ∧ vi = .int .i64 ((i : Int) + 1) ∧ wr = w) (fun vi _ => bs.length - (RowKit.intOf vi).toNat)
  case atStart => exact ⟨0, by omega, rfl, rfl⟩
  case round =>
    obtain ⟨i, hi, rfl, rfl⟩ := hrel
    have c2 := HR.out.c2
    have hlt : i + 1 < bs.length := by omega
    by_cases hik : i < k
    · have q0 := HR.out.bits _ _ (HF.out i hik)
      clear hkf
      go_wp2_with fail
      go_roundw
      case rel => exact ⟨i + 1, by omega, by go_num, trivial⟩
      case measure => simp [RowKit.intOf]; omega
    · obtain rfl : i = k := by omega
      have q0 := HR.out.bits _ _ hkf
      clear hkf
      go_wp2_with fail
      go_ret
      exact ⟨rfl, rfl⟩
set_option maxHeartbeats 4000000 in
set_option maxRecDepth 10000 in
theorem rfree_full (h : RM w P m gN cN gB cB room nds bs) (hno : ∀ j : Nat, (stOf nds bs)[j]? ≠ some none) (hr : room < bs.length) :
    Calls Tryz.prog 72 #[.pointer (some ⟨m, 0, none⟩)] w fun e w' => e = .returned (.int .i64 0) ∧ Below w.heap.size w w' := by
  have HR := Lib.hid h
  have hcap := h.cap
  have hsm := h.small
  have hone := h.one
  have HF := Lib.hid (fun i hi => full_at (i := i) hno h.len hi)
  clear h hno
  go_enter Tryz.func72, Tryz.ntmps72
  go_wp2_with fail
  go_loopw [3] (fun vi wr => ∃ i : Nat, i + 1 ≤ bs.length ∧ vi = .int .i64 ((i : Int) + 1) ∧ wr = w) (fun vi _ => bs.length - (RowKit.intOf vi).toNat)
  case atStart => exact ⟨0, by omega, rfl, rfl⟩
  case round =>
    obtain ⟨i, hi, rfl, rfl⟩ := hrel
    have c0 := HR.out.c0
    have c2 := HR.out.c2
    by_cases hlt : i + 1 < bs.length
    · have q0 := HR.out.bits _ _ (HF.out i hlt)
      go_wp2_with fail
      go_roundw
      case rel => exact ⟨i + 1, by omega, by go_num, trivial⟩
      case measure => simp [RowKit.intOf]; omega
    · have hd : decide (room < bs.length) = true := decide_eq_true (by omega)
      go_wp2_with fail
      go_quiet (fail)
      go_wp2_with fail
      go_ret
      exact ⟨rfl, by first | exact Below.refl _ _ | exact below_drewN (Below.refl _ _) _⟩
end
end Go.Proofs.YtjgjacihdggimaaGreatDoor
namespace Go.Proofs.YtjgjacihdggimaaGreatDoor
open Go.RowKit
section
variable {w w' : World} {P Q : Nat → Prop} {m gN cN gB cB room : Nat} {nds : List Nd} {bs : List Bool}
theorem RM.mono (h : RM w P m gN cN gB cB room nds bs) (hpq : ∀ g, P g → Q g) : RM w Q m gN cN gB cB room nds bs :=
  { h with
    pM := hpq _ h.pM
    pN := hpq _ h.pN
    pB := hpq _ h.pB
    rows := fun i n hi => by
      obtain ⟨B, cb, C, cc, h4, hr, hn⟩ := h.rows i n hi
      exact ⟨B, cb, C, cc, h4, hr.mono fun g hg _ => ⟨hpq g hg.1, hg.2⟩, hn.mono fun g hg _ => ⟨hpq g hg.1, hg.2⟩⟩ }
theorem RM.put (h : RM w P m gN cN gB cB room nds bs) {i : Nat} (hi : i < bs.length) {x : Nd} {A B : Option Addr} {ca cb : Nat} (hA : RowI w (fun g => P g ∧ g ≠ m ∧ g ≠ gN ∧ g ≠ gB) A x.refs) (hB : RowI w (fun g => P g ∧ g ≠ m ∧ g ≠ gN ∧ g ≠ gB) B x.nums)
    (hw : x.refs.length ≤ 1000000 ∧ x.nums.length ≤ 1000000) :
    RM ((set4 w gN (i * 4) (.int .i64 x.kind) (.slice A x.refs.length ca) (.slice B x.nums.length cb) (.string ⟨x.text.toArray⟩)).setCell ⟨gB, i, none⟩ (.bool true)) P m gN cN gB cB room (nds.set i x) (bs.set i true) := by
  have hbut : ButS (fun g => g = gN ∨ g = gB) w ((set4 w gN (i * 4) (.int .i64 x.kind) (.slice A x.refs.length ca) (.slice B x.nums.length cb) (.string ⟨x.text.toArray⟩)).setCell ⟨gB, i, none⟩ (.bool true)) :=
    ((ButS.refl _ w).set4 (.inl (.inl rfl))).setCell (p := ⟨gB, i, none⟩) (.inl (.inr rfl)) _
  have hfr : ∀ p, ((set4 w gN (i * 4) (.int .i64 x.kind) (.slice A x.refs.length ca) (.slice B x.nums.length cb) (.string ⟨x.text.toArray⟩)).setCell ⟨gB, i, none⟩ (.bool true)).frozen? p = w.frozen? p := fun p => by rw [World.frozen?_setCell, set4_frozen]
  have hkeep : Kept w ((set4 w gN (i * 4) (.int .i64 x.kind) (.slice A x.refs.length ca) (.slice B x.nums.length cb) (.string ⟨x.text.toArray⟩)).setCell ⟨gB, i, none⟩ (.bool true)) (fun g => P g ∧ g ≠ m ∧ g ≠ gN ∧ g ≠ gB) := hbut.keptQ fun g hg e => by rcases e with e | e; exact hg.2.2.1 e; exact hg.2.2.2 e
  have hsz := hbut.size
  have hlen := h.len
  have hcN : ∀ p : Addr, p.block = gN → ((set4 w gN (i * 4) (.int .i64 x.kind) (.slice A x.refs.length ca) (.slice B x.nums.length cb) (.string ⟨x.text.toArray⟩)).setCell ⟨gB, i, none⟩ (.bool true)).cell? p = (set4 w gN (i * 4) (.int .i64 x.kind) (.slice A x.refs.length ca) (.slice B x.nums.length cb) (.string ⟨x.text.toArray⟩)).cell? p := fun p hp => World.cell?_setCell_other _ _ _ _ fun e => h.nNB (by rw [← hp, ← e])
  have hmm : ¬ (m = gN ∨ m = gB) := fun e => by rcases e with e | e; exact h.nMN e; exact h.nMB e
  refine ⟨hbut.cell hmm h.c0, by rw [List.length_set]; exact hbut.cell hmm h.c1, by rw [List.length_set]; exact hbut.cell hmm h.c2, fun j => by rw [hfr]; exact h.fM j, fun j => by rw [hfr]; exact h.fN j, fun j => by rw [hfr]; exact h.fB j, h.pM, h.pN, h.pB, h.nMN, h.nMB, h.nNB, Nat.lt_of_lt_of_le h.lN hsz, Nat.lt_of_lt_of_le h.lB hsz, ?_, ?_, by rw [List.length_set, List.length_set]; exact hlen, by rw [List.length_set]; exact h.one, by rw [List.length_set]; exact h.cap, h.small, ?_, by rw [List.length_set]; exact h.room'⟩
  · intro j n hj
    by_cases e : i = j
    · subst e
      rw [List.getElem?_set_self (by omega)] at hj
      obtain rfl := Option.some.inj hj
      obtain ⟨B', cb', C', cc', ⟨q0, q1, q2, q3⟩, _⟩ := h.rows i _ (List.getElem?_eq_getElem (by omega))
      obtain ⟨r0, r1, r2, r3⟩ := set4_near (a := .int .i64 x.kind) (b := .slice A x.refs.length ca) (c := .slice B x.nums.length cb) (d := .string ⟨x.text.toArray⟩) q0 q1 q2 q3
      exact ⟨A, ca, B, cb, ⟨(hcN _ rfl).trans r0, (hcN _ rfl).trans r1, (hcN _ rfl).trans r2, (hcN _ rfl).trans r3⟩, hA.kept hkeep, hB.kept hkeep⟩
    · rw [List.getElem?_set_ne e] at hj
      obtain ⟨B', cb', C', cc', ⟨q0, q1, q2, q3⟩, hr, hn⟩ := h.rows j n hj
      have far : ∀ k, k < 4 → (set4 w gN (i * 4) (.int .i64 x.kind) (.slice A x.refs.length ca) (.slice B x.nums.length cb) (.string ⟨x.text.toArray⟩)).cell? ⟨gN, j * 4 + k, none⟩ = w.cell? ⟨gN, j * 4 + k, none⟩ := fun k hk => set4_far fun l hl e' => by
        have := congrArg Addr.off e'
        simp at this
        omega
      exact ⟨B', cb', C', cc', ⟨((hcN _ rfl).trans (far 0 (by decide))).trans q0, ((hcN _ rfl).trans (far 1 (by decide))).trans q1, ((hcN _ rfl).trans (far 2 (by decide))).trans q2, ((hcN _ rfl).trans (far 3 (by decide))).trans q3⟩, hr.kept hkeep, hn.kept hkeep⟩
  · intro j b hj
    by_cases e : i = j
    · subst e
      rw [List.getElem?_set_self hi] at hj
      obtain rfl := Option.some.inj hj
      have q := h.bits i _ (List.getElem?_eq_getElem hi)
      exact World.cell?_setCell_same _ _ _ ((set4_far fun l hl e' => h.nNB (by have := congrArg Addr.block e'; exact this.symm)).trans q)
    · rw [List.getElem?_set_ne e] at hj
      have q := h.bits j _ hj
      rw [World.cell?_setCell_other _ _ _ _ (fun e' => e (by have := congrArg Addr.off e'; exact this))]
      exact (set4_far fun l hl e' => h.nNB (by have := congrArg Addr.block e'; exact this.symm)).trans q
  · intro n hn
    obtain ⟨j, hj⟩ := List.getElem?_of_mem hn
    by_cases e : i = j
    · subst e
      rw [List.getElem?_set_self (by omega)] at hj
      obtain rfl := Option.some.inj hj
      exact hw
    · rw [List.getElem?_set_ne e] at hj
      exact h.wide n (List.mem_of_getElem? hj)
end
end Go.Proofs.YtjgjacihdggimaaGreatDoor
