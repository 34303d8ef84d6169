/- Texts joined: GpL, GrI, GpW, GpX, GpY. -/
import Derived.Test.YtbppkflgokfjhaaGj08
import Derived.Shelf.Slices.Empties
import Derived.Test.YtbppkflgokfjhaaGj02
import Derived.Deep.QuietTactic
import Derived.BigQuiet
import Derived.Test.YtbppkflgokfjhaaGj05
import Derived.Test.YtbppkflgokfjhaaGj03
set_option linter.all false
namespace Go.Proofs.Ytbppkflgokfjhaa
open Go.RowKit Go.Maps Go.Sort Go.Shelf Go.Lib
noncomputable def strG (L : List Lk) : List Int := (nodesG L 1024).filter fun n => !decide (n ∈ cycG L 1024)
theorem strG_mem {L : List Lk} (hk : OkK L) {n : Int} : n ∈ strG L ↔ isN L n ∧ ¬ cycN L n := by
  unfold strG
  rw [List.mem_filter, nodesG_mem hk, Bool.not_eq_true', decide_eq_false_iff_not, cycG_mem hk]
theorem strG_rise (L : List Lk) : (strG L).Pairwise (· < ·) := (upto_rise _ _).filter _
theorem strG_len (L : List Lk) : (strG L).length ≤ 1024 := Nat.le_trans (List.length_filter_le _ _) (upto_len _ _)
structure RowW (w : World) (P : Nat → Prop) (A : Option Addr) (c : Nat) (l : List Int) : Prop where
  le : l.length ≤ c
  cap : c ≤ maxLen
  row : RowH w P A l
theorem RowW.kept {w w' : World} {P : Nat → Prop} {A : Option Addr} {c : Nat} {l : List Int} (h : RowW w P A c l) (hk : Kept w w' P) : RowW w' P A c l := ⟨h.le, h.cap, h.row.kept hk⟩
theorem RowW.below {w w' : World} {P : Nat → Prop} {A : Option Addr} {c : Nat} {l : List Int} (h : RowW w P A c l) (hb : Below w.heap.size w w') : RowW w' P A c l := ⟨h.le, h.cap, h.row.below hb⟩
theorem RowW.mono {w : World} {P Q : Nat → Prop} {A : Option Addr} {c : Nat} {l : List Int} (h : RowW w P A c l) (hpq : ∀ g, P g → g < w.heap.size → Q g) : RowW w Q A c l := ⟨h.le, h.cap, h.row.mono hpq⟩
theorem own_rowW {base : Nat} {w : World} {v : Value} {L : List Int} (h : OwnR 3 1 inW base w v L) : ∃ (A : Option Addr) (c : Nat), v = .slice A L.length c ∧ RowW w (fun g => base ≤ g) A c L := by
  obtain ⟨A, cap, e, hk, _, hr⟩ := own_rowH h
  refine ⟨A, cap, e, hk, ?_, hr⟩
  rcases h.2 with ⟨e2, _⟩ | ⟨g, c, cur, e2, _, _, _, h6, _⟩
  · rw [e] at e2; injection e2 with _ _ e3; rw [e3]; exact Nat.zero_le _
  · rw [e] at e2; injection e2 with _ _ e3; rw [e3]; exact h6
theorem holds_take {w : World} {g o : Nat} {a b : List Int} (h : Holds (Value.int .i64) w g o (a ++ b).toArray) : Holds (Value.int .i64) w g o a.toArray := fun j hj => by
  have hj : j < a.length := by simpa using hj
  have := h j (by simp; omega)
  refine ⟨this.1.trans ?_, this.2⟩
  simp [hj, List.getElem?_append_left]
set_option maxHeartbeats 4000000 in
set_option maxRecDepth 10000 in
theorem search_any (rd : List Int) (A : Option Addr) (c : Nat) (w : World) {P : Nat → Prop} (hl : RowI w P A rd) (hll : rd.length ≤ 1000000) (hs : rd.Pairwise (· < ·)) (x : Int) :
    Calls Try.prog 49 #[.slice A rd.length c, .int .i64 x] w fun e w' => ∃ n : Nat, e = .returned (.tuple #[.int .i64 n, .bool (decide (x ∈ rd))]) ∧ ∃ q, w' = w.drewN q := by
  by_cases hn : rd = []
  · subst hn
    refine (Any.slices_BinarySearch_int_empty Try.searchA A c x w).mono ?_
    rintro e w' ⟨rfl, rfl⟩
    exact ⟨0, by simp, 0, rfl⟩
  · rcases hl with h | ⟨g, o, rfl, _, _, hc⟩
    · exact absurd h hn
    · refine (Any.slices_BinarySearch_int Try.searchA g o rd.length c rd x w (Nat.le_refl _) (by omega) (fun j hj => by
        rw [hc j rd[j] (List.getElem?_eq_getElem hj), List.getD_eq_getElem?_getD, List.getElem?_eq_getElem hj]; rfl) (by rw [List.take_length]; exact hs.imp fun {a b} h => by omega)).mono ?_
      rintro e w' ⟨rfl, hq⟩
      rw [List.take_length, List.contains_eq_mem]
      exact ⟨_, rfl, hq⟩
set_option maxHeartbeats 8000000 in
set_option maxRecDepth 10000 in
theorem str_gives (rd : List Int) (A : Option Addr) (c B : Nat) (W : World) {P : Nat → Prop} (hB : W.cell? ⟨B, 0, none⟩ = some (.slice A rd.length c)) (hl : RowI W P A rd) (hll : rd.length ≤ 1000000) (hs : rd.Pairwise (· < ·)) (x : Int) :
    FnGives Try.prog 48 #[.pointer (some ⟨B, 0, none⟩)] #[.int .i64 x] (.bool (decide (x ∈ rd))) W := by
  show Calls Try.prog 48 #[.int .i64 x, .pointer (some ⟨B, 0, none⟩)] W _
  have HS := Lib.hid (search_any rd A c W hl hll hs x)
  generalize decide (x ∈ rd) = b at *
  clear hl hs
  go_enter Try.func48, Try.ntmps48
  go_wp2_with fail
  refine HS.out.mono ?_; rintro e w1 ⟨n, rfl, q, rfl⟩
  go_wp2_with fail
  go_ret
  exact ⟨rfl, q, rfl⟩
theorem delf_any (p : Int → Bool) (g : Nat) (lb : Array Value) (eg : ∀ args w, (callFunc g args).run Try.prog w = .ok (.enter g args) w) (l : List Int) (A : Option Addr) (c : Nat) (w : World) {P : Nat → Prop} (hr : RowW w P A c l) (base : Nat) (hP : ∀ k, P k → base ≤ k) (hs : base ≤ w.heap.size)
    (hp : PredAt Try.prog g lb (Value.int .i64) p w) (hpo : ∀ blk o, A = some ⟨blk, o, none⟩ → P blk → PredOver Try.prog g lb (Value.int .i64) p blk o l.length w) :
    Calls Try.prog 47 #[.slice A l.length c, .func (.func g) #[] lb] w fun e w' => e = .returned (.slice A (l.filter fun x => !p x).length c) ∧ RowW w' P A c (l.filter fun x => !p x) ∧ Below base w w' := by
  by_cases hn : l = []
  · subst hn
    have HI := Lib.hid (fun fv => AnyE.slices_IndexFunc_empty Try.indexA A c fv w)
    have HC := Lib.hid hr.cap
    clear hr hp hpo
    go_enter Try.func47, Try.ntmps47
    go_wp2_with fail
    refine (HI.out _).mono ?_; rintro e w1 ⟨rfl, rfl⟩
    go_wp2_with fail
    go_ret
    exact ⟨rfl, ⟨Nat.zero_le _, HC.out, .inl rfl⟩, Below.refl _ _⟩
  · rcases hr.row with h | ⟨blk, o, rfl, hPk, hlt, hh⟩
    · exact absurd h hn
    · have h := AnyE.slices_DeleteFunc Try.delfA (Value.int .i64) (fun _ => rfl) p g lb eg 0 Try.zeroValue3 blk o c l.toArray w hp (by have := hpo blk o rfl hPk; simpa using this) hh (by have := hr.le; have := hr.cap; unfold maxLen at this; simp; omega) (by simpa using hr.le)
      have hsz : l.toArray.size = l.length := by simp
      rw [hsz] at h
      refine h.mono ?_
      rintro e w' ⟨he, q, rfl⟩
      have hfl : (l.filter fun x => !p x).length ≤ l.length := List.length_filter_le _ _
      have hH := holds_putRow (Value.int .i64) (Sort.ahead w q) blk o l.toArray ((l.filter fun x => !p x) ++ List.replicate (l.length - (l.filter fun x => !p x).length) 0).toArray (holds_ahead _ _ _ _ _ _ hh) (by simp; omega)
      refine ⟨by rw [he], ⟨Nat.le_trans hfl hr.le, hr.cap, .inr ⟨blk, o, rfl, hPk, by show blk < (w.heap.modify _ _).size; rw [Array.size_modify]; exact hlt, holds_take hH⟩⟩, ?_⟩
      have := below_putRow (w := w) (blk := blk) (off := o) (n := q) (base := base) (d := ((l.filter fun x => !p x) ++ List.replicate (l.length - (l.filter fun x => !p x).length) 0).toArray) (os := #[]) (hP blk hPk) hs
      rw [grow_none] at this
      exact this
set_option maxHeartbeats 8000000 in
set_option maxRecDepth 10000 in
theorem pstraight_any (w : World) (g : Nat) (L : List Lk) (hP : GP12 w g L) (hk : OkK L) (hL : L.length ≤ 60) :
    Calls Try.prog 31 #[.pointer (some ⟨g, 0, none⟩)] w fun e w' => ∃ A c, e = .returned (.slice A (strG L).length c) ∧ RowW w' (fun k => w.heap.size ≤ k) A c (strG L) ∧ Below w.heap.size w w' := by
  have HCy := Lib.hid (pcyclic_any w g L hP hk hL)
  have HP := Lib.hid hP
  have HK := Lib.hid hk
  clear hP hk hL
  go_enter Try.func31, Try.ntmps31
  go_wp2_with fail
  refine HCy.out.mono ?_; rintro e w1 ⟨A1, c1, rfl, hk1, hr1, hb1⟩
  have hba : Below w1.heap.size w1 (w1.alloc (.cells #[.slice A1 (cycG L 1024).length c1] 23)) := (Below.refl _ _).alloc (Nat.le_refl _) _
  obtain ⟨w2, hw2⟩ : ∃ w2, w1.alloc (.cells #[.slice A1 (cycG L 1024).length c1] 23) = w2 := ⟨_, rfl⟩
  have hcB : w2.cell? ⟨w1.heap.size, 0, none⟩ = some (.slice A1 (cycG L 1024).length c1) := by rw [← hw2]; simp [go_sem]
  have hBl : w1.heap.size < w2.heap.size := by rw [← hw2]; simp
  rw [hw2] at hba
  have hr2 := hr1.below hba
  have hb2 := hb1.trans (hba.mono hb1.size)
  have HB2 := Lib.hid hb2
  have HN := Lib.hid (pnodes_any w2 g L (HP.out.below hb2) HK.out)
  have HR2 := Lib.hid ((hr1.mono (Q := fun k => w.heap.size ≤ k ∧ k < w1.heap.size) fun k hk hl => ⟨hk, hl⟩).below hba)
  have HcB := Lib.hid hcB
  have HBl := Lib.hid hBl
  have HZ := Lib.hid hb1.size
  clear hr1 hr2 hb1 hb2 hcB hba HCy
  have HCl : Hid ((cycG L 1024).length ≤ 1024) := Lib.hid (upto_len _ _)
  have HCr : Hid ((cycG L 1024).Pairwise (· < ·)) := Lib.hid (upto_rise _ _)
  have HSt : Hid ((nodesG L 1024).filter (fun n => !decide (n ∈ cycG L 1024)) = strG L) := Lib.hid rfl
  generalize cycG L 1024 = CC at *
  generalize nodesG L 1024 = NN at *
  go_wp2_with fail
  refine HN.out.mono ?_; rintro e w3 ⟨v, rfl, ho, hb3⟩
  obtain ⟨A3, c3, rfl, hr3⟩ := own_rowW ho
  have hcB3 : w3.cell? ⟨w1.heap.size, 0, none⟩ = some (.slice A1 CC.length c1) := keep_cell hb3 HcB.out
  have HD := Lib.hid (delf_any (fun n => decide (n ∈ CC)) 48 #[.pointer (some ⟨w1.heap.size, 0, none⟩)] (enters_of Try.func48 (by kernel_rfl) rfl) NN A3 c3 w3 hr3 w.heap.size (fun k hk => by have := HB2.out.size; omega) (by have := HB2.out.size; have := hb3.size; omega)
    (fun W x hb => str_gives CC A1 c1 w1.heap.size W (keep_cell hb hcB3) ((HR2.out.below hb3).below hb) (by have := HCl.out; omega) HCr.out x)
    (fun blk o e hPb n os dk x hd => by
      have hkp : Kept w3 (grow (putRow (Value.int .i64) (Sort.ahead w3 n) blk o dk) os) (fun k => k ≠ blk) := ⟨size_putRow, fun k hk hl => heap_putRow hl hk⟩
      have hb3s := hb3.size
      refine str_gives CC A1 c1 w1.heap.size _ (hkp.cell (g := w1.heap.size) (by show w1.heap.size ≠ blk; have := HBl.out; omega) hcB3) (((HR2.out.kept (Kept.of_below hb3)).mono (Q := fun k => k ≠ blk) fun k hk hl => ?_).kept hkp) (by have := HCl.out; omega) HCr.out x
      have := hk.2
      have := HBl.out
      omega))
  have HB3 := Lib.hid (HB2.out.trans (hb3.mono HB2.out.size))
  clear ho hr3 hb3 hcB3
  go_wp2_with fail
  refine HD.out.mono ?_; rintro e w4 ⟨rfl, hr4, hb4⟩
  rw [HSt.out] at hr4 ⊢
  have HR4 := Lib.hid hr4
  have HB4 := Lib.hid (HB3.out.trans hb4)
  clear hr4 hb4
  go_wp2_with fail
  go_ret
  exact ⟨A3, c3, rfl, ⟨HR4.out.le, HR4.out.cap, HR4.out.row.mono fun k hk _ => by have := HB2.out.size; omega⟩, HB4.out⟩
end Go.Proofs.Ytbppkflgokfjhaa
namespace Go.Proofs.Ytbppkflgokfjhaa
open Go.RowKit
open Classical in
noncomputable def mayC (L : List Lk) : Nat := if OkK L then (if DisL L then 0 else 5) else 1
theorem may_bad {L : List Lk} {x : Lk} (hx : x ∈ L) (h : ¬ okN x.at_) : mayC L = 1 := by
  unfold mayC; exact if_neg fun q => h (q x hx).1
theorem may_badR {L : List Lk} {x : Lk} (hx : x ∈ L) {r : Int} (hr : r ∈ x.rd) (h : ¬ okN r) : mayC L = 1 := by
  unfold mayC; exact if_neg fun q => h ((q x hx).2 r hr)
theorem may_twice {L : List Lk} (hk : OkK L) (h : ¬ DisL L) : mayC L = 5 := by
  unfold mayC; rw [if_pos hk, if_neg h]
theorem may_ok {L : List Lk} (hk : OkK L) (h : DisL L) : mayC L = 0 := by
  unfold mayC; rw [if_pos hk, if_pos h]
theorem may_zero {L : List Lk} (h : mayC L = 0) : OkK L ∧ DisL L := by
  unfold mayC at h
  split at h
  · rename_i hk
    split at h
    · rename_i hd; exact ⟨hk, hd⟩
    · cases h
  · cases h
def OkM (q : LkM) : Prop := okN q.at_ ∧ ∀ r ∈ q.rd, okN r
theorem okK_of {l : List LkM} (h : ∀ q ∈ l, OkM q) : OkK (lkS l) := fun x hx => by
  obtain ⟨q, hq, rfl⟩ := List.mem_map.1 hx
  exact h q hq
theorem disM_next {l : List LkM} {i : Nat} {q : LkM} (hq : l[i]? = some q) (h : DisL (lkS (l.take i))) (hn : ∀ x ∈ l.take i, x.at_ ≠ q.at_) : DisL (lkS (l.take (i + 1))) := by
  rw [List.take_add_one, hq]
  unfold lkS DisL
  rw [List.map_append]
  refine List.pairwise_append.2 ⟨h, List.pairwise_singleton _ _, fun a ha b hb => ?_⟩
  obtain ⟨x, hx, rfl⟩ := List.mem_map.1 ha
  obtain rfl : b = q.k := by simpa using hb
  exact hn x hx
theorem disM_not {l : List LkM} {i k : Nat} {q x : LkM} (hk : k < i) (hx : l[k]? = some x) (hq : l[i]? = some q) (e : x.at_ = q.at_) : ¬ DisL (lkS l) := fun h => by
  have h1 : (lkS l)[k]? = some x.k := by unfold lkS; rw [List.getElem?_map, hx]; rfl
  have h2 : (lkS l)[i]? = some q.k := by unfold lkS; rw [List.getElem?_map, hq]; rfl
  obtain ⟨h3, e3⟩ := List.getElem?_eq_some_iff.1 h1
  obtain ⟨h4, e4⟩ := List.getElem?_eq_some_iff.1 h2
  have := List.pairwise_iff_getElem.1 h k i h3 h4 hk
  rw [e3, e4] at this
  exact this e
def GMay (w : World) (L : List Lk) (e : Ending) (w' : World) : Prop := e = .returned (.int .i64 (mayC L : Nat)) ∧ Below w.heap.size w w'
theorem GMay.of {w w' : World} {L : List Lk} {c : Int} {n : Nat} (h : mayC L = n) (hc : c = (n : Int)) (hb : Below w.heap.size w w') : GMay w L (.returned (.int .i64 c)) w' := ⟨by rw [h, hc], hb⟩
set_option maxHeartbeats 16000000 in
set_option maxRecDepth 10000 in
theorem gmay_any (l : List LkM) (A : Option Addr) (ca : Nat) (w : World) {P : Nat → Prop} (hl : RowL w P A l) (hll : l.length ≤ 1000000) (hrl : ∀ q ∈ l, q.rd.length ≤ 1000000) :
    Calls Try.prog 9 #[.slice A l.length ca] w fun e w' => GMay w (lkS l) e w' := by
  have HL := Lib.hid hl
  have HRl := Lib.hid hrl
  have HM := Lib.hid (fun (q : LkM) (hq : q ∈ l) => (show q.k ∈ lkS l from List.mem_map.2 ⟨q, hq, rfl⟩))
  clear hl hrl
  go_enter Try.func9, Try.ntmps9
  go_wp2_with fail
  go_loopw [3] (fun vi wr => ∃ i : Nat, i ≤ l.length ∧ vi = .int .i64 (i : Int) ∧ Hid (∀ q ∈ l.take i, OkM q) ∧ wr = w) (fun vi _ => l.length - (RowKit.intOf vi).toNat)
  case atStart => exact ⟨0, Nat.zero_le _, rfl, Lib.hid (by simp), rfl⟩
  case round =>
    obtain ⟨i, hi, rfl, HT, hw⟩ := hrel
    have hw' := hw.symm
    subst hw'
    clear hw
    by_cases hlt : i < l.length
    · obtain ⟨q, hq⟩ : ∃ q, l[i]? = some q := ⟨_, List.getElem?_eq_getElem hlt⟩
      obtain ⟨g, o, rfl, _, hgl, hat⟩ := HL.out.at hlt
      obtain ⟨⟨q0, q1⟩, hrq⟩ := hat i q hq
      have hI : (i : Int) < (l.length : Int) := by omega
      have hJ : (0 : Int) ≤ (i : Int) := by omega
      have hql := HRl.out q (List.mem_of_getElem? hq)
      have HRq := Lib.hid hrq
      have HQ := Lib.hid hq
      have HQm := Lib.hid (HM.out q (List.mem_of_getElem? hq))
      have HNx := Lib.hid (fun h => allM_next (p := OkM) hq HT.out h)
      obtain ⟨an, rd, RA, rc⟩ := q
      clear hat hrq hq
      by_cases h1 : an < 0
      · have HE : Hid (mayC (lkS l) = 1) := Lib.hid (may_bad HQm.out (fun h => by have h : 0 ≤ an ∧ an ≤ 1023 := h; omega))
        go_wp2_with fail
        go_ret
        exact GMay.of HE.out rfl (Below.refl _ _)
      · by_cases h2 : (1023 : Int) < an
        · have HE : Hid (mayC (lkS l) = 1) := Lib.hid (may_bad HQm.out (fun h => by have h : 0 ≤ an ∧ an ≤ 1023 := h; omega))
          go_wp2_with fail
          go_ret
          exact GMay.of HE.out rfl (Below.refl _ _)
        · have HAn : Hid (okN an) := Lib.hid ⟨by omega, by omega⟩
          go_wp2_with fail
          go_loopw [4] (fun vk wr => ∃ k : Nat, k ≤ rd.length ∧ vk = .int .i64 (k : Int) ∧ Hid (∀ r ∈ rd.take k, okN r) ∧ wr = w) (fun vk _ => rd.length - (RowKit.intOf vk).toNat)
          case atStart => exact ⟨0, Nat.zero_le _, rfl, Lib.hid (by simp), rfl⟩
          case round =>
            obtain ⟨k, hk, rfl, HK, hw⟩ := hrel
            have hw' := hw.symm
            subst hw'
            clear hw
            by_cases hkl : k < rd.length
            · obtain ⟨r, hr⟩ : ∃ r, rd[k]? = some r := ⟨_, List.getElem?_eq_getElem hkl⟩
              obtain ⟨g2, o2, rfl, _, hg2, hat2⟩ := HRq.out.at hkl
              have p0 := hat2 k r hr
              have hkI : (k : Int) < (rd.length : Int) := by omega
              have hkJ : (0 : Int) ≤ (k : Int) := by omega
              have HR := Lib.hid hr
              clear hat2 hr
              by_cases h3 : r < 0
              · have HE : Hid (mayC (lkS l) = 1) := Lib.hid (may_badR HQm.out (List.mem_of_getElem? HR.out) (fun h => by have h : 0 ≤ r ∧ r ≤ 1023 := h; omega))
                go_wp2_with fail
                go_ret
                exact GMay.of HE.out rfl (Below.refl _ _)
              · by_cases h4 : (1023 : Int) < r
                · have HE : Hid (mayC (lkS l) = 1) := Lib.hid (may_badR HQm.out (List.mem_of_getElem? HR.out) (fun h => by have h : 0 ≤ r ∧ r ≤ 1023 := h; omega))
                  go_wp2_with fail
                  go_ret
                  exact GMay.of HE.out rfl (Below.refl _ _)
                · have HK2 : Hid (∀ r ∈ rd.take (k + 1), okN r) := Lib.hid fun x hx => by
                    rw [List.take_add_one, HR.out] at hx
                    rcases List.mem_append.1 hx with e | e
                    · exact HK.out x e
                    · obtain rfl : x = r := by simpa using e
                      exact ⟨by omega, by omega⟩
                  go_wp2_with fail
                  go_roundw
                  case rel => exact ⟨k + 1, by omega, by go_num, HK2, by first | rfl | trivial⟩
                  case measure => simp [RowKit.intOf]; omega
            · have hkk : k = rd.length := by omega
              subst hkk
              have hkk2 := HK.out
              rw [List.take_length] at hkk2
              have HT2 := Lib.hid (HNx.out ⟨HAn.out, hkk2⟩)
              clear hkk2
              go_wp2_with fail
              go_roundw
              case rel => exact ⟨i + 1, by omega, by go_num, HT2, by first | rfl | trivial⟩
              case measure => simp [RowKit.intOf]; omega
    · have hii : i = l.length := by omega
      subst hii
      have ht := HT.out
      rw [List.take_length] at ht
      have HOk := Lib.hid (okK_of ht)
      clear ht
      go_wp2_with fail
      go_loopw [5] (fun vi wr => ∃ i : Nat, i ≤ l.length ∧ vi = .int .i64 (i : Int) ∧ Hid (DisL (lkS (l.take i))) ∧ Hid (∃ n, wr = w.drewN n)) (fun vi _ => l.length - (RowKit.intOf vi).toNat)
      case atStart => exact ⟨0, Nat.zero_le _, rfl, Lib.hid (by rw [List.take_zero]; exact List.Pairwise.nil), Lib.hid ⟨0, by simp [World.drewN_zero]⟩⟩
      case round =>
        obtain ⟨i, hi, rfl, HD, HW⟩ := hrel
        obtain ⟨n1, hw1⟩ := HW.out
        by_cases hlt : i < l.length
        · obtain ⟨q, hq⟩ : ∃ q, l[i]? = some q := ⟨_, List.getElem?_eq_getElem hlt⟩
          have hI : (i : Int) < (l.length : Int) := by omega
          have hJ : (0 : Int) ≤ (i : Int) := by omega
          have HQ := Lib.hid hq
          have HNx := Lib.hid (fun hn => disM_next hq HD.out hn)
          have HBo := Lib.hid (show Below w.heap.size w wr by rw [hw1]; exact below_drewN (Below.refl _ _) _)
          obtain ⟨wo, rfl⟩ : ∃ wo : World, wo = wr := ⟨wr, rfl⟩
          have HWo := Lib.hid hw1
          clear hq hw1
          go_wp2_with fail
          go_loopw [6] (fun vk wr => ∃ k : Nat, k ≤ i ∧ vk = .int .i64 (k : Int) ∧ Hid (∀ x ∈ l.take k, x.at_ ≠ q.at_) ∧ Hid (∃ n, wr = wo.drewN n)) (fun vk _ => i - (RowKit.intOf vk).toNat)
          case atStart => exact ⟨0, Nat.zero_le _, rfl, Lib.hid (by simp), Lib.hid ⟨0, by simp [World.drewN_zero]⟩⟩
          case round =>
            obtain ⟨k, hk, rfl, HK, HW2⟩ := hrel
            obtain ⟨n2, hw2⟩ := HW2.out
            have HB2 := Lib.hid (show Below wo.heap.size wo wr by rw [hw2]; exact below_drewN (Below.refl _ _) _)
            by_cases hki : k < i
            · obtain ⟨x, hx⟩ : ∃ x, l[k]? = some x := ⟨_, List.getElem?_eq_getElem (by omega)⟩
              obtain ⟨g, o, rfl, _, hgl, hat⟩ := HL.out.at hlt
              have hbx : Below w.heap.size w wr := HBo.out.trans (HB2.out.mono HBo.out.size)
              have p0 := keep_cell hbx (hat k x hx).1.1
              have q0 := keep_cell hbx (hat i q HQ.out).1.1
              have hkI : (k : Int) < (i : Int) := by omega
              have hkJ : (0 : Int) ≤ (k : Int) := by omega
              have hkL : (k : Int) < (l.length : Int) := by omega
              have HKn := Lib.hid (fun e => allM_next (p := fun y : LkM => y.at_ ≠ q.at_) hx HK.out e)
              have HNd := Lib.hid (fun e => may_twice HOk.out (disM_not hki hx HQ.out e))
              have HBx := Lib.hid hbx
              obtain ⟨an, rd, RA, rc⟩ := q
              obtain ⟨bn, sd, SA, sc⟩ := x
              have HKn : Hid (bn ≠ an → _) := HKn
              have HNd : Hid (bn = an → _) := HNd
              clear hat hx hbx hw2
              by_cases e : bn = an
              · have d0 : (bn == an) = true := by simpa using e
                have HE := Lib.hid (HNd.out e)
                clear e HKn HNd
                go_wp2_with fail
                go_quiet (fail)
                go_wp2_with fail
                go_ret
                exact GMay.of HE.out rfl (by first | exact below_drewN HBx.out _ | exact HBx.out)
              · have d0 : (bn == an) = false := by simpa using e
                have HK2 := Lib.hid (HKn.out e)
                clear e HKn HNd
                go_wp2_with fail
                go_quiet (fail)
                go_wp2_with fail
                go_roundw
                case rel => exact ⟨k + 1, by omega, by go_num, HK2, Lib.hid (by obtain ⟨n2, hw2⟩ := HW2.out; exact ⟨n2 + nq, by rw [hw2]; exact World.drewN_drewN _ _ _⟩)⟩
                case measure => simp [RowKit.intOf]; omega
            · have hkk : k = i := by omega
              subst hkk
              have HD3 := Lib.hid (HNx.out HK.out)
              have hki2 : ¬ (k : Int) < (k : Int) := by omega
              clear HNx HK
              go_wp2_with fail
              go_roundw
              case rel => exact ⟨k + 1, by omega, by go_num, HD3, Lib.hid ⟨n1 + n2, (congrArg (fun z => World.drewN z n2) HWo.out).trans (World.drewN_drewN _ _ _)⟩⟩
              case measure => simp [RowKit.intOf]; omega
        · have hii : i = l.length := by omega
          subst hii
          have hd := HD.out
          rw [List.take_length] at hd
          have HE := Lib.hid (may_ok HOk.out hd)
          have HBz := Lib.hid (show Below w.heap.size w wr by rw [hw1]; exact below_drewN (Below.refl _ _) _)
          clear hd hw1
          go_wp2_with fail
          go_ret
          exact GMay.of HE.out rfl HBz.out
end Go.Proofs.Ytbppkflgokfjhaa
namespace Go.Proofs.Ytbppkflgokfjhaa
open Go.RowKit Go.Maps Go.Sort Go.Shelf Go.Lib
def noneB (x : Int) : Bool := decide (x < 0) || decide (1024 ≤ x)
def badM (q : LkM) : Bool := noneB q.at_ || q.rd.any noneB
theorem noneB_no {x : Int} : noneB x = false ↔ okN x := by
  unfold noneB okN
  rw [Bool.or_eq_false_iff, decide_eq_false_iff_not, decide_eq_false_iff_not]
  constructor <;> intro h <;> omega
theorem badM_no {q : LkM} : badM q = false ↔ OkM q := by
  unfold badM OkM
  rw [Bool.or_eq_false_iff, noneB_no, List.any_eq_false]
  constructor
  · rintro ⟨h1, h2⟩
    exact ⟨h1, fun r hr => noneB_no.1 (by simpa using h2 r hr)⟩
  · rintro ⟨h1, h2⟩
    exact ⟨h1, fun r hr => by rw [noneB_no.2 (h2 r hr)]; simp⟩
theorem bads_no {l : List LkM} (h : l.any badM = false) : OkK (lkS l) := okK_of fun q hq => badM_no.1 (by simpa using List.any_eq_false.1 h q hq)
theorem bads_yes {l : List LkM} (h : l.any badM = true) : mayC (lkS l) = 1 := by
  obtain ⟨q, hq, hb⟩ := List.any_eq_true.1 h
  unfold mayC
  refine if_neg fun hk => ?_
  have h2 := hk q.k (List.mem_map.2 ⟨q, hq, rfl⟩)
  rw [badM_no.2 h2] at hb
  cases hb
set_option maxHeartbeats 4000000 in
set_option maxRecDepth 10000 in
theorem none_gives (x : Int) (W : World) : FnGives Try.prog 38 #[] #[.int .i64 x] (.bool (noneB x)) W := by
  show Calls Try.prog 38 #[.int .i64 x] W _
  unfold noneB
  cases h1 : decide (x < 0) with
  | true =>
    go_enter Try.func38, Try.ntmps38
    go_wp2_with fail
    go_ret
    exact ⟨rfl, 0, rfl⟩
  | false =>
    cases h2 : decide ((1024 : Int) ≤ x) with
    | true =>
      go_enter Try.func38, Try.ntmps38
      go_wp2_with fail
      go_ret
      exact ⟨rfl, 0, rfl⟩
    | false =>
      go_enter Try.func38, Try.ntmps38
      go_wp2_with fail
      go_ret
      exact ⟨rfl, 0, rfl⟩
theorem cont_any (l : List Int) (A : Option Addr) (c : Nat) (w : World) {P : Nat → Prop} (hl : RowI w P A l) (hll : l.length ≤ 1000000) :
    Calls Try.prog 39 #[.slice A l.length c, .func (.func 38) #[] #[]] w fun e w' => e = .returned (.bool (l.any noneB)) ∧ ∃ q, w' = w.drewN q := by
  by_cases hn : l = []
  · subst hn
    refine (AnyE.slices_ContainsFunc_empty Try.containsA A c _ w).mono ?_
    rintro e w' ⟨he, rfl⟩
    exact ⟨he, 0, rfl⟩
  · rcases hl with h | ⟨g, o, rfl, _, _, hc⟩
    · exact absurd h hn
    · refine (AnyE.slices_ContainsFunc Try.containsA (Value.int .i64) noneB 38 #[] (enters_of Try.func38 (by kernel_rfl) rfl) g o l.length c l w (fun V x _ => none_gives x V) (Nat.le_refl _) (by omega) (fun j hj => by
        rw [hc j l[j] (List.getElem?_eq_getElem hj), List.getElem!_eq_getElem?_getD, List.getElem?_eq_getElem hj]; rfl)).mono ?_
      rintro e w' ⟨he, hq⟩
      rw [List.take_length] at he
      exact ⟨he, hq⟩
set_option maxHeartbeats 8000000 in
set_option maxRecDepth 10000 in
theorem wrong_any (q : LkM) (w : World) {P : Nat → Prop} (hl : RowI w P q.RA q.rd) (hll : q.rd.length ≤ 1000000) :
    Calls Try.prog 21 #[.agg #[.int .i64 q.at_, .slice q.RA q.rd.length q.rc]] w fun e w' => e = .returned (.bool (badM q)) ∧ Below w.heap.size w w' := by
  obtain ⟨an, rd, RA, rc⟩ := q
  dsimp only at hl hll
  have hba : Below w.heap.size w (w.alloc (.cells #[.int .i64 an, .slice RA rd.length rc] 41)) := (Below.refl _ _).alloc (Nat.le_refl _) _
  have HN := Lib.hid (fun W => none_gives an W)
  have HC := Lib.hid (fun W (hb : Below w.heap.size w W) => cont_any rd RA rc W (hl.below hb) hll)
  have HE : Hid (badM ⟨an, rd, RA, rc⟩ = (noneB an || rd.any noneB)) := Lib.hid rfl
  have HBa := Lib.hid hba
  rw [HE.out]
  clear hl hba HE
  generalize noneB an = b at *
  generalize rd.any noneB = b2 at *
  cases b with
  | true =>
    go_enter Try.func21, Try.ntmps21
    go_wp2_with fail
    refine (show Calls _ _ _ _ _ from HN.out _).mono ?_; rintro e w1 ⟨rfl, n, rfl⟩
    have HB1 := Lib.hid (below_drewN HBa.out n)
    go_wp2_with fail
    go_ret
    exact ⟨rfl, HB1.out⟩
  | false =>
    go_enter Try.func21, Try.ntmps21
    go_wp2_with fail
    refine (show Calls _ _ _ _ _ from HN.out _).mono ?_; rintro e w1 ⟨rfl, n, rfl⟩
    have HB1 := Lib.hid (below_drewN HBa.out n)
    go_wp2_with fail
    refine (HC.out _ HB1.out).mono ?_; rintro e w1 ⟨rfl, n2, rfl⟩
    have HB2 := Lib.hid (below_drewN HB1.out n2)
    go_wp2_with fail
    go_ret
    first
    | exact ⟨rfl, HB2.out⟩
    | exact ⟨rfl, below_drewN HBa.out (n + n2)⟩
def LkW (w : World) : Type := { q : LkM // RowI w (fun _ => True) q.RA q.rd ∧ q.rd.length ≤ 1000000 }
theorem lift_lk (w : World) : ∀ l : List LkM, (∀ q ∈ l, RowI w (fun _ => True) q.RA q.rd ∧ q.rd.length ≤ 1000000) → ∃ zs : List (LkW w), (zs.map fun q : LkW w => q.val) = l
  | [], _ => ⟨[], rfl⟩
  | q :: l, h => by
    obtain ⟨zs, hz⟩ := lift_lk w l fun x hx => h x (List.mem_cons_of_mem _ hx)
    exact ⟨⟨q, h q List.mem_cons_self⟩ :: zs, congrArg (fun r => q :: r) hz⟩
set_option maxHeartbeats 8000000 in
set_option maxRecDepth 10000 in
theorem contL_none (A : Option Addr) (c : Nat) (fv : Value) (w : World) : Calls Try.prog 20 #[.slice A 0 c, fv] w fun e w' => e = .returned (.bool false) ∧ Below w.heap.size w w' := by
  have HI : Hid (Calls Try.prog 37 #[.slice A 0 c, fv] w fun e w' => e = .returned (.int .i64 (-1)) ∧ w' = w) := Lib.hid (by
    go_enter Try.func37, Try.ntmps37
    go_wp2_with fail
    go_loopw [8] (fun vi wr => vi = .int .i64 0 ∧ wr = w) (fun _ _ => 0)
    case atStart => exact ⟨rfl, rfl⟩
    case round =>
      obtain ⟨rfl, rfl⟩ := hrel
      go_wp2_with fail
      go_ret
      exact ⟨rfl, rfl⟩)
  go_enter Try.func20, Try.ntmps20
  go_wp2_with fail
  refine HI.out.mono ?_; rintro e w1 ⟨rfl, rfl⟩
  go_wp2_with fail
  go_ret
  exact ⟨rfl, Below.refl _ _⟩
theorem contL_any (l : List LkM) (A : Option Addr) (ca : Nat) (w : World) {P : Nat → Prop} (hl : RowL w P A l) (hll : l.length ≤ 1000000) (hrl : ∀ q ∈ l, q.rd.length ≤ 1000000) :
    Calls Try.prog 20 #[.slice A l.length ca, .func (.func 21) #[] #[]] w fun e w' => e = .returned (.bool (l.any badM)) ∧ Below w.heap.size w w' := by
  haveI : Inhabited (LkW w) := ⟨⟨⟨0, [], none, 0⟩, .inl rfl, by simp⟩⟩
  by_cases hn : l = []
  · subst hn
    exact contL_none A ca _ w
  · rcases hl with h | ⟨g, o, rfl, _, hg, hat⟩
    · exact absurd h hn
    · have hok : ∀ q ∈ l, RowI w (fun _ => True) q.RA q.rd ∧ q.rd.length ≤ 1000000 := fun q hq => by
        obtain ⟨i, hi⟩ := List.mem_iff_getElem?.1 hq
        exact ⟨(hat i q hi).2.mono fun _ _ _ => trivial, hrl q hq⟩
      obtain ⟨zs, rfl⟩ := lift_lk w l hok
      have hzl : (zs.map fun q : LkW w => q.val).length = zs.length := List.length_map _
      rw [hzl] at hll ⊢
      have h := AnyQ.slices_ContainsFunc Try.containsLA 2 Try.isAgg41 Try.sizeOf41 (fun q : LkW w => [.int .i64 q.val.at_, .slice q.val.RA q.val.rd.length q.val.rc]) (fun _ => rfl) (fun q => badM q.val) 21 #[] (enters_of Try.func21 (by kernel_rfl) rfl) g o zs.length ca zs w (fun V q hb => (wrong_any q.val V (q.property.1.below hb) q.property.2).mono fun e w' ⟨he, hb'⟩ => ⟨he, hb.trans (hb'.mono hb.size)⟩) (Nat.le_refl _) (by omega) hg (fun j hj i v hv => by
        have e1 : zs[j]! = zs[j] := by rw [List.getElem!_eq_getElem?_getD, List.getElem?_eq_getElem hj]; rfl
        rw [e1] at hv
        obtain ⟨⟨c0, c1⟩, _⟩ := hat j zs[j].val (by rw [List.getElem?_map, List.getElem?_eq_getElem hj]; rfl)
        match i, hv with
        | 0, hv => rw [Nat.add_zero, c0]; exact hv
        | 1, hv => rw [c1]; exact hv)
      refine h.mono ?_
      rintro e w' ⟨he, hb⟩
      refine ⟨?_, hb⟩
      rw [List.take_length] at he
      rw [he, List.any_map]
      rfl
end Go.Proofs.Ytbppkflgokfjhaa
namespace Go.Proofs.Ytbppkflgokfjhaa
open Go.RowKit Go.Maps Go.Sort
def hotG (f2 : Int → Option Sl) (h : Nat) : Prop := ∃ r s, f2 r = some s ∧ (slE.val s).ownBlock = some h
structure GBm (w : World) (base g b1 b2 n1 n2 : Nat) (f1 f2 : Int → Option Sl) (R1 R2 : Int → List Int) : Prop where
  c0 : w.cell? ⟨g, 0, none⟩ = some (.map (some b1))
  c1 : w.cell? ⟨g, 1, none⟩ = some (.map (some b2))
  lt : g < base ∧ b1 < base ∧ b2 < base ∧ b1 ≠ b2 ∧ g ≠ b1 ∧ g ≠ b2 ∧ base ≤ w.heap.size
  m1 : MapI slE w b1 n1 f1
  m2 : MapI slE w b2 n2 f2
  s1 : ∀ n, RowS w (fun h => base ≤ h ∧ ¬ hotG f2 h) ((f1 n).getD sl0) (R1 n)
  o2 : ∀ r, OwnR 3 1 inW base w (slE.val ((f2 r).getD sl0)) (R2 r)
  ap : ∀ r r', r ≠ r' → Apart (slE.val ((f2 r).getD sl0)) (slE.val ((f2 r').getD sl0))
theorem sl_of {w : World} {base : Nat} {v : Value} {l : List Int} (h : OwnR 3 1 inW base w v l) : ∃ s : Sl, v = slE.val s ∧ s.len = l.length := by
  obtain ⟨A, cap, e, _, _⟩ := own_rowG h
  rcases h.2 with ⟨e2, _⟩ | ⟨g, c, cur, e2, _⟩
  · rw [e] at e2
    injection e2 with e3 _ _
    exact ⟨⟨none, l.length, cap⟩, by rw [e, e3]; rfl, rfl⟩
  · rw [e] at e2
    injection e2 with e3 _ _
    exact ⟨⟨some (g, 0), l.length, cap⟩, by rw [e, e3]; rfl, rfl⟩
section
variable {w w' : World} {base g b1 b2 n1 n2 : Nat} {f1 f2 : Int → Option Sl} {R1 R2 : Int → List Int}
theorem hot_get {r : Int} {h : Nat} (hh : (slE.val ((f2 r).getD sl0)).ownBlock = some h) : hotG f2 h := by
  cases e : f2 r with
  | none => rw [e] at hh; cases hh
  | some s => rw [e] at hh; exact ⟨r, s, e, hh⟩
theorem hot_of {h : Nat} (hh : hotG f2 h) : ∃ r, (slE.val ((f2 r).getD sl0)).ownBlock = some h := by
  obtain ⟨r, s, e, hs⟩ := hh
  exact ⟨r, by rw [e]; exact hs⟩
theorem GBm.hot (h : GBm w base g b1 b2 n1 n2 f1 f2 R1 R2) {k : Nat} (hk : hotG f2 k) : base ≤ k ∧ k < w.heap.size := by
  obtain ⟨r, hr⟩ := hot_of hk
  exact World.ownsRow.lt (h.o2 r) k hr
theorem GBm.below (h : GBm w base g b1 b2 n1 n2 f1 f2 R1 R2) (hb : Below w.heap.size w w') : GBm w' base g b1 b2 n1 n2 f1 f2 R1 R2 where
  c0 := keep_cell hb h.c0
  c1 := keep_cell hb h.c1
  lt := by have := h.lt; have := hb.size; omega
  m1 := h.m1.below hb
  m2 := h.m2.below hb
  s1 := fun n => (h.s1 n).below hb
  o2 := fun r => (h.o2 r).below hb
  ap := h.ap
theorem RowS.kept {w w' : World} {P : Nat → Prop} {s : Sl} {l : List Int} (h : RowS w P s l) (hk : Kept w w' P) : RowS w' P s l := ⟨h.len, h.row.kept hk⟩
theorem RowS.mono {w : World} {P Q : Nat → Prop} {s : Sl} {l : List Int} (h : RowS w P s l) (hpq : ∀ g, P g → g < w.heap.size → Q g) : RowS w Q s l := ⟨h.len, h.row.mono hpq⟩
theorem GBm.put1 (h : GBm w base g b1 b2 n1 n2 f1 f2 R1 R2) {x : Int} (hx : KB x) (hn : n1 < maxLen) {s : Sl} {S : List Int} (hs : RowS w (fun h => base ≤ h ∧ ¬ hotG f2 h) s S) :
    ∃ w', (Instr.mapUpdate 46 (.map (some b1)) (.int .i64 x) (slE.val s)).run Try.prog w = .ok () w' ∧ GBm w' base g b1 b2 (n1 + 1) n2 (updI f1 x s) f2 (fun n => if n = x then S else R1 n) R2 ∧ w.grownBy w' (some b1) ∧ w'.heap.size = w.heap.size := by
  obtain ⟨w', hrun, hm, hg, hz, _⟩ := h.m1.put under_mapG hn hx s
  obtain ⟨l1, l2, l3, l4, l5, l6, l7⟩ := h.lt
  have hk : Kept w w' (fun k => base ≤ k ∧ ¬ hotG f2 k) := ⟨hg.size, fun k hk hl => hg.block k hl (fun e => by have := Option.some.inj e; omega)⟩
  have hcell : ∀ j, w'.cell? ⟨g, j, none⟩ = w.cell? ⟨g, j, none⟩ := fun j => World.cell?_of_block (hg.block g (by omega) (fun e => l5 (Option.some.inj e)))
  refine ⟨w', hrun, ⟨(hcell 0).trans h.c0, (hcell 1).trans h.c1, ⟨l1, l2, l3, l4, l5, l6, by omega⟩, hm, ?_, fun n => ?_, fun r => ?_, h.ap⟩, hg, hz⟩
  · obtain ⟨D, h1, h2⟩ := h.m2
    exact ⟨D, h1.kept hg (fun e => l4 (Option.some.inj e).symm), h2⟩
  · unfold updI
    by_cases e : n = x
    · rw [if_pos e, if_pos e]
      exact hs.kept hk
    · rw [if_neg e, if_neg e]
      exact (h.s1 n).kept hk
  · exact World.ownsRow.kept (h.o2 r) hg (by
      cases e : (slE.val ((f2 r).getD sl0)).ownBlock with
      | none => exact .inl rfl
      | some k =>
        refine .inr fun e2 => ?_
        have := (World.ownsRow.lt (h.o2 r) k e).1
        have := Option.some.inj e2
        omega)
theorem GBm.put2 (h : GBm w base g b1 b2 n1 n2 f1 f2 R1 R2) {r a : Int} (hr : KB r) (hn : n2 < maxLen) {wa w1 : World} {v' : Value} (hba : Below w.heap.size w wa) (hg1 : wa.grownBy w1 (slE.val ((f2 r).getD sl0)).ownBlock) (ho : OwnR 3 1 inW base w1 v' (R2 r ++ [a])) (hat : v'.ownBlock = (slE.val ((f2 r).getD sl0)).ownBlock ∨ v'.ownBlock = some wa.heap.size) :
    ∃ w2 s', v' = slE.val s' ∧ (Instr.mapUpdate 46 (.map (some b2)) (.int .i64 r) v').run Try.prog w1 = .ok () w2 ∧ GBm w2 base g b1 b2 n1 (n2 + 1) f1 (updI f2 r s') R1 (fun y => if y = r then R2 r ++ [a] else R2 y) ∧ w.heap.size ≤ w2.heap.size ∧ (∀ k, k < w.heap.size → ¬ hotG f2 k → k ≠ b2 → w2.heap[k]? = w.heap[k]? ∧ ¬ hotG (updI f2 r s') k) ∧ w2.os = w.os ∧ w2.tape = w.tape ∧ w2.output = w.output := by
  obtain ⟨s', rfl, hsl⟩ := sl_of ho
  obtain ⟨l1, l2, l3, l4, l5, l6, l7⟩ := h.lt
  have hza := hba.size
  have hz1 := hg1.size
  have hown : ∀ k, (slE.val ((f2 r).getD sl0)).ownBlock = some k → base ≤ k ∧ k < w.heap.size := fun k hk => World.ownsRow.lt (h.o2 r) k hk
  have hb1 : ∀ k, k < w.heap.size → ¬ hotG f2 k → w1.heap[k]? = w.heap[k]? := fun k hk hh => (hg1.block k (by omega) (fun e => hh (hot_get e.symm))).trans (hba.block k hk)
  have hnh : ∀ k, k < base → ¬ hotG f2 k := fun k hk hh => by have := (h.hot hh).1; omega
  have hm2 : MapI slE w1 b2 n2 f2 := by
    obtain ⟨D, h1, h2⟩ := h.m2.below hba
    exact ⟨D, h1.kept hg1 (fun e => hnh b2 l3 (hot_get e.symm)), h2⟩
  obtain ⟨w2, hrun, hm, hg2, hz2, _⟩ := hm2.put under_mapG hn hr s'
  have hot' : ∀ k, hotG (updI f2 r s') k → hotG f2 k ∨ w.heap.size ≤ k := by
    rintro k ⟨y, s, e, hs⟩
    unfold updI at e
    by_cases hy : y = r
    · rw [if_pos hy] at e
      cases e
      rcases hat with q | q
      · rw [q] at hs; exact .inl (hot_get hs)
      · rw [q] at hs; have := Option.some.inj hs; exact .inr (by omega)
    · rw [if_neg hy] at e
      exact .inl ⟨y, s, e, hs⟩
  have hblk : ∀ k, k < w.heap.size → ¬ hotG f2 k → k ≠ b2 → w2.heap[k]? = w.heap[k]? := fun k hk hh hne => (hg2.block k (by omega) (fun e => hne (Option.some.inj e))).trans (hb1 k hk hh)
  have hcell : ∀ j, w2.cell? ⟨g, j, none⟩ = w.cell? ⟨g, j, none⟩ := fun j => World.cell?_of_block (hblk g (by omega) (hnh g l1) l6)
  have hapt : ∀ y, y ≠ r → Apart (slE.val s') (slE.val ((f2 y).getD sl0)) := fun y hy k hk1 hk2 => by
    rcases hat with q | q
    · rw [q] at hk1; exact h.ap r y (fun e => hy e.symm) k hk1 hk2
    · rw [q] at hk1
      have := Option.some.inj hk1
      have := (World.ownsRow.lt (h.o2 y) k hk2).2
      omega
  have hsz : w.heap.size ≤ w2.heap.size := by omega
  refine ⟨w2, s', rfl, hrun, ⟨(hcell 0).trans h.c0, (hcell 1).trans h.c1, ⟨l1, l2, l3, l4, l5, l6, by omega⟩, ?_, hm, fun n => ?_, fun y => ?_, fun y y' hyy => ?_⟩, hsz, fun k hk hh hne => ⟨hblk k hk hh hne, fun q => by rcases hot' k q with c | c; exact hh c; omega⟩, hg2.os.trans (hg1.os.trans hba.os), hg2.tape.trans (hg1.tape.trans hba.tape), hg2.output.trans (hg1.output.trans hba.output)⟩
  · obtain ⟨D, h1, h2⟩ := h.m1.below hba
    exact ⟨D, (h1.kept hg1 (fun e => hnh b1 l2 (hot_get e.symm))).kept hg2 (fun e => l4 (Option.some.inj e)), h2⟩
  · have h1 := (h.s1 n).mono (Q := fun k => (base ≤ k ∧ ¬ hotG f2 k) ∧ k < w.heap.size) fun k hk hl => ⟨hk, hl⟩
    refine (h1.kept (w' := w2) ⟨hsz, fun k hk hl => hblk k hl hk.1.2 (by omega)⟩).mono fun k hk _ => ⟨hk.1.1, fun q => ?_⟩
    rcases hot' k q with c | c
    · exact hk.1.2 c
    · omega
  · unfold updI
    have kept2 : ∀ {v : Value} {l : List Int}, OwnR 3 1 inW base w1 v l → OwnR 3 1 inW base w2 v l := fun {v l} hv => World.ownsRow.kept hv hg2 (by
      cases e : v.ownBlock with
      | none => exact .inl rfl
      | some k =>
        refine .inr fun e2 => ?_
        have := (World.ownsRow.lt hv k e).1
        have := Option.some.inj e2
        omega)
    by_cases e : y = r
    · subst e
      rw [if_pos rfl, if_pos rfl]
      exact kept2 ho
    · rw [if_neg e, if_neg e]
      exact kept2 (((h.o2 y).below hba).beside hg1 (h.ap r y fun q => e q.symm))
  · unfold updI
    by_cases e : y = r
    · have e' : y' ≠ r := fun q => hyy (e.trans q.symm)
      rw [if_pos e, if_neg e']
      exact hapt y' e'
    · rw [if_neg e]
      by_cases e' : y' = r
      · rw [if_pos e']
        exact (hapt y e).symm
      · rw [if_neg e']
        exact h.ap y y' hyy
theorem GBm.look2 (h : GBm w base g b1 b2 n1 n2 f1 f2 R1 R2) {x : Int} (hx : KB x) : (Instr.lookup 46 (.map (some b2)) (.int .i64 x) false).run Try.prog w = .ok (slE.val ((f2 x).getD sl0)) w := h.m2.look under_mapG (zero_sliceG w) hx
theorem GBm.look1 (h : GBm w base g b1 b2 n1 n2 f1 f2 R1 R2) {x : Int} (hx : KB x) : (Instr.lookup 46 (.map (some b1)) (.int .i64 x) true).run Try.prog w = .ok (.tuple #[slE.val ((f1 x).getD sl0), .bool (f1 x).isSome]) w := h.m1.look_ok under_mapG (zero_sliceG w) hx
end
end Go.Proofs.Ytbppkflgokfjhaa
namespace Go.Proofs.Ytbppkflgokfjhaa
open Go.RowKit Go.Maps Go.Sort Go.Shelf Go.Lib
theorem compUp {d : Array Int} {N : Nat} (hs : ∀ i j, i ≤ j → j < N → d[i]! ≤ d[j]!) : ∀ m, m ≤ N → (∀ x, x ∈ compactUpTo d m ↔ ∃ j, j < m ∧ d[j]! = x) ∧ (compactUpTo d m).Pairwise (· < ·)
  | 0, _ => ⟨fun x => by simp [compactUpTo], List.Pairwise.nil⟩
  | m + 1, hm => by
    obtain ⟨h1, h2⟩ := compUp hs m (by omega)
    rw [compactUpTo_succ]
    by_cases hk : keeps d m = true
    · rw [if_pos hk]
      refine ⟨fun x => ?_, List.pairwise_append.2 ⟨h2, List.pairwise_singleton _ _, fun a ha b hb => ?_⟩⟩
      · rw [List.mem_append, h1, List.mem_singleton]
        constructor
        · rintro (⟨j, hj, e⟩ | rfl)
          · exact ⟨j, by omega, e⟩
          · exact ⟨m, by omega, rfl⟩
        · rintro ⟨j, hj, e⟩
          by_cases q : j = m
          · subst q; exact .inr e.symm
          · exact .inl ⟨j, by omega, e⟩
      · obtain rfl : b = d[m]! := by simpa using hb
        obtain ⟨j, hj, rfl⟩ := (h1 a).1 ha
        have a1 := hs j (m - 1) (by omega) (by omega)
        have a2 := hs (m - 1) m (by omega) (by omega)
        have a3 : m = 0 ∨ d[m]! ≠ d[m - 1]! := of_decide_eq_true hk
        rcases a3 with a3 | a3 <;> omega
    · rw [if_neg hk, List.append_nil]
      have hk : ¬ (m = 0 ∨ d[m]! ≠ d[m - 1]!) := fun q => hk (decide_eq_true q)
      have hm0 : m ≠ 0 := fun q => hk (.inl q)
      have hme : d[m]! = d[m - 1]! := Classical.byContradiction fun q => hk (.inr q)
      refine ⟨fun x => ?_, h2⟩
      rw [h1]
      constructor
      · rintro ⟨j, hj, e⟩
        exact ⟨j, by omega, e⟩
      · rintro ⟨j, hj, e⟩
        by_cases q : j = m
        · subst q; exact ⟨j - 1, by omega, by rw [← hme, e]⟩
        · exact ⟨j, by omega, e⟩
theorem comp_sorted {l : List Int} (hs : l.Pairwise (· ≤ ·)) : (∀ x, x ∈ compact l ↔ x ∈ l) ∧ (compact l).Nodup ∧ (compact l).length ≤ l.length := by
  have hg : ∀ j (h : j < l.length), l.toArray[j]! = l[j] := fun j h => by simp [h]
  obtain ⟨h1, h2⟩ := compUp (d := l.toArray) (N := l.length) (fun i j hij hj => by
    rw [hg i (by omega), hg j hj]
    by_cases e : i = j
    · subst e; exact Int.le_refl _
    · exact List.pairwise_iff_getElem.1 hs i j (by omega) hj (by omega)) l.length (Nat.le_refl _)
  have hm : ∀ x, x ∈ compact l ↔ x ∈ l := fun x => by
    unfold compact
    rw [h1 x, List.mem_iff_getElem]
    constructor
    · rintro ⟨j, hj, e⟩
      exact ⟨j, hj, by rw [← hg j hj]; exact e⟩
    · rintro ⟨j, hj, e⟩
      exact ⟨j, hj, by rw [hg j hj]; exact e⟩
  refine ⟨hm, h2.imp fun {a b} h => by omega, ?_⟩
  unfold compact compactUpTo
  rw [List.length_map]
  have := List.length_filter_le (keeps l.toArray) (List.range l.length)
  rwa [List.length_range] at this
def rdsG (rd : List Int) : List Int := compact (rd.mergeSort leI)
theorem sort_le (l : List Int) : (l.mergeSort leI).Pairwise (· ≤ ·) := by
  have := List.pairwise_mergeSort (le := leI) (fun a b c h1 h2 => by simp only [leI, decide_eq_true_eq] at *; omega) (fun a b => by simp only [leI, Bool.or_eq_true, decide_eq_true_eq]; omega) l
  exact this.imp fun {a b} h => by simpa [leI] using h
theorem rdsG_ok (rd : List Int) : (∀ x, x ∈ rdsG rd ↔ x ∈ rd) ∧ (rdsG rd).Nodup ∧ (rdsG rd).length ≤ rd.length := by
  obtain ⟨h1, h2, h3⟩ := comp_sorted (sort_le rd)
  refine ⟨fun x => (h1 x).trans (List.mergeSort_perm rd leI).mem_iff, h2, ?_⟩
  have := (List.mergeSort_perm rd leI).length_eq
  unfold rdsG
  omega
theorem compact_row (l : List Int) (A : Option Addr) (c : Nat) (w : World) {P : Nat → Prop} (hl : RowH w P A l) (hc : l.length ≤ c) (hll : l.length ≤ 1000000) (base : Nat) (hP : ∀ g, P g → base ≤ g) (hs : base ≤ w.heap.size) :
    Calls Try.prog 41 #[.slice A l.length c] w fun e w' => e = .returned (.slice A (compact l).length c) ∧ RowH w' P A (compact l) ∧ Below base w w' := by
  rcases hl with rfl | ⟨g, o, rfl, hp, hg, hh⟩
  · refine (Any.slices_Compact_int_empty Try.compactA A c w).mono ?_
    rintro e w' ⟨he, rfl⟩
    have : compact ([] : List Int) = [] := rfl
    rw [this]
    exact ⟨he, .inl rfl, Below.refl _ _⟩
  · refine (Any.slices_Compact_int Try.compactA g o c l w hh (by omega) hc).mono ?_
    rintro e w' ⟨he, q, rfl⟩
    have hcl : (compact l).length ≤ l.length := by
      unfold compact compactUpTo
      rw [List.length_map]
      have := List.length_filter_le (keeps l.toArray) (List.range l.length)
      rwa [List.length_range] at this
    have hH := holds_putRow (Value.int .i64) (Sort.ahead w q) g o l.toArray (compact l ++ List.replicate (l.length - (compact l).length) 0).toArray (holds_ahead _ _ _ _ _ _ hh) (by simp; omega)
    refine ⟨he, .inr ⟨g, o, rfl, hp, by show g < (w.heap.modify _ _).size; rw [Array.size_modify]; exact hg, holds_take hH⟩, ?_⟩
    have := below_putRow (w := w) (blk := g) (off := o) (n := q) (base := base) (d := (compact l ++ List.replicate (l.length - (compact l).length) 0).toArray) (os := #[]) (hP g hp) hs
    rw [grow_none] at this
    exact this
end Go.Proofs.Ytbppkflgokfjhaa
