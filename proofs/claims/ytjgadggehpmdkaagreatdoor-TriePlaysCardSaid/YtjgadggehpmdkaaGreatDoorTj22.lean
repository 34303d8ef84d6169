/- Texts joined: TsB, TrAd, TrAe, TsC, TsD. -/
import Derived.Test.YtjgadggehpmdkaaGreatDoorTj21
import Derived.Test.YtjgadggehpmdkaaGreatDoorTj08
import Derived.Test.YtjgadggehpmdkaaGreatDoorTj09
import Derived.Test.YtjgadggehpmdkaaGreatDoorTj15
import Derived.Deep.RegionHeld3
import Derived.Deep.QuietTactic
import Derived.BigQuiet
set_option linter.all false
namespace Go.Proofs.YtjgadggehpmdkaaGreatDoor
def belR (f : Int → Option (List En)) : List Int → List En → Option (List En)
  | [], out => some out
  | r :: rs, out => match f r with
    | none => none
    | some l => if (out ++ l).length > 1024 then none else belR f rs (out ++ l)
def belL (s : Sh) : Nat → Int → Option (List En)
  | 0, _ => none
  | d + 1, h => match ndAt s h with
    | none => none
    | some n => if n.refs.length > 32 then none else if n.kind = 1 ∧ n.nums.length = 1 then some [⟨n.nums.headD 0, n.text⟩] else belR (belL s d) n.refs []
mutual
def okB : Tr → Nat → Prop
  | .mk k nums _ kids, d => ∃ d', d = d' + 1 ∧ kids.length ≤ 32 ∧ (k = 1 ∧ nums.length = 1 → kids = []) ∧ okBL kids d'
def okBL : List Tr → Nat → Prop
  | [], _ => True
  | t :: ts, d => okB t d ∧ okBL ts d
end
theorem okBL_of : ∀ {ts : List Tr} {d : Nat}, (∀ t ∈ ts, okB t d) → okBL ts d
  | [], _, _ => by rw [okBL]; trivial
  | u :: ts, d, h => by rw [okBL]; exact ⟨h u (by simp), okBL_of fun t ht => h t (List.mem_cons_of_mem _ ht)⟩
mutual
theorem okB_up : ∀ (t : Tr) (d : Nat), okB t d → okB t (d + 1)
  | .mk k nums text kids, d, h => by
    rw [okB] at h ⊢
    obtain ⟨d', rfl, h1, h2, h3⟩ := h
    exact ⟨d' + 1, rfl, h1, h2, okBL_up kids d' h3⟩
theorem okBL_up : ∀ (ts : List Tr) (d : Nat), okBL ts d → okBL ts (d + 1)
  | [], _, _ => by rw [okBL]; trivial
  | t :: ts, d, h => by
    rw [okBL] at h ⊢
    exact ⟨okB_up t d h.1, okBL_up ts d h.2⟩
end
theorem okB_leaf (x : En) (d : Nat) : okB (leafT x) (d + 1) := by
  unfold leafT
  rw [okB]
  exact ⟨d, rfl, by simp, fun _ => rfl, by rw [okBL]; trivial⟩
theorem okB_buk {l : List En} (h : l.length ≤ 32) : okB (bukT l) 2 := by
  unfold bukT
  split
  · exact okB_leaf _ 1
  · rw [okB]
    exact ⟨1, rfl, by rw [List.length_map]; exact h, fun e => absurd e.1 (by decide), okBL_of fun t ht => by obtain ⟨x, _, rfl⟩ := List.mem_map.1 ht; exact okB_leaf x 0⟩
theorem okB_trK : ∀ (k : Nat), k ≤ 2 → ∀ {l : List En}, OkL l → Pre k l → okB (trK k l) (k + 2)
  | 0, _, l, h, hp => by
    rw [trK]
    exact okB_buk (Nat.le_trans (bucket_two h hp) (by decide))
  | k + 1, hk, l, h, hp => by
    rw [trK]
    split
    · rename_i ho
      have h2 := okB_buk (Nat.le_trans (bucket_two h ho) (by decide : 2 ≤ 32))
      have : ∀ j : Nat, okB (bukT l) (2 + j) := fun j => by
        induction j with
        | zero => exact h2
        | succ j ih => exact okB_up _ _ ih
      have := this (k + 1)
      rwa [show k + 1 + 2 = 2 + (k + 1) by omega]
    · rw [okB]
      refine ⟨k + 2, rfl, by rw [List.length_map]; exact partsD_len l _, fun e => absurd e.1 (by decide), okBL_of fun t ht => ?_⟩
      obtain ⟨p, hpm, rfl⟩ := List.mem_map.1 ht
      obtain ⟨hs, _, d, _, rfl⟩ := part_sub hpm
      exact okB_trK k (by omega) (okL_sub h hs) (pre_part (by omega) h.keys hp d)
mutual
theorem bel_at {s : Sh} : ∀ (t : Tr) (h : Int) (d : Nat), At s t h → okB t d → (lvs t).length ≤ 1024 → belL s d h = some (lvs t)
  | .mk k nums text kids, h, d, hA, hB, hl => by
    rw [At] at hA
    obtain ⟨hs, e, hk⟩ := hA
    rw [okB] at hB
    obtain ⟨d', rfl, h1, h2, h3⟩ := hB
    have hlen := atL_len kids hs hk
    rw [belL, e]
    show (if hs.length > 32 then none else if k = 1 ∧ nums.length = 1 then some [(⟨nums.headD 0, text⟩ : En)] else belR (belL s d') hs []) = _
    rw [if_neg (by omega), lvs]
    rw [lvs] at hl
    by_cases hc : k = 1 ∧ nums.length = 1
    · rw [if_pos hc, if_pos hc, h2 hc, lvsL, List.append_nil]
    · rw [if_neg hc] at hl ⊢
      rw [if_neg hc, belL_at kids hs d' [] hk h3 (by simpa using hl)]
theorem belL_at {s : Sh} : ∀ (ts : List Tr) (hs : List Int) (d : Nat) (out : List En), AtL s ts hs → okBL ts d → (out ++ lvsL ts).length ≤ 1024 → belR (belL s d) hs out = some (out ++ lvsL ts)
  | [], hs, d, out, hA, _, _ => by
    rw [AtL] at hA
    subst hA
    rw [belR, lvsL, List.append_nil]
  | t :: ts, hs, d, out, hA, hB, hl => by
    rw [AtL] at hA
    obtain ⟨h, hs', rfl, a, b⟩ := hA
    rw [okBL] at hB
    rw [lvsL, ← List.append_assoc] at hl
    have h1 : (out ++ lvs t).length ≤ 1024 := by have e : ((out ++ lvs t) ++ lvsL ts).length = (out ++ lvs t).length + (lvsL ts).length := List.length_append; omega
    rw [belR, bel_at t h d a hB.1 (by rw [List.length_append] at h1; omega)]
    show (if (out ++ lvs t).length > 1024 then none else belR (belL s d) hs' (out ++ lvs t)) = _
    rw [if_neg (by omega), belL_at ts hs' d (out ++ lvs t) b hB.2 hl, lvsL, List.append_assoc]
end
def seekD (s : Sh) (l : List Nd) : Int := match seekL s [] l with
  | none => 0
  | some c => c.getLastD 0
theorem okL_len {l : List En} (h : OkL l) : l.length ≤ 1024 := by
  have e := ent_txL h
  have key : ∀ (f : Txs) (n : Nat), (entX f n).length ≤ n := by
    intro f n
    induction n with
    | zero => rw [entX]; exact Nat.le_refl _
    | succ n ih =>
      rw [entX, List.length_append]
      split <;> simp <;> omega
  have := key (txL l) 1024
  rwa [e] at this
theorem has_yes {room : Nat} {s : Sh} (hi : Inv room s) {h : Int} {l : List En} (hh : h ≠ 0) (a : IsT s h l) : ∃ L, belL s 4 h = some L ∧ (∀ x ∈ L, rightE x = true) ∧ DisK L ∧ sortK L 1024 = l ∧ l ≠ [] ∧ seekD s (nodesL l) = h := by
  rcases a.2 with e | ⟨hne, hat⟩
  · exact absurd e.2 hh
  · have hp := lvs_trK 2 a.1.keys
    have hr : ∀ x ∈ lvs (trK 2 l), rightE x = true := fun x hx => a.1.1 x (hp.mem_iff.1 hx)
    have hd : DisK (lvs (trK 2 l)) := (dis_perm hp).2 (ok_dis a.1)
    refine ⟨lvs (trK 2 l), bel_at _ _ 4 hat (okB_trK 2 (Nat.le_refl _) a.1 trivial) (by rw [hp.length_eq]; exact okL_len a.1), hr, hd, (sort_ok hr hd).eq a.1 fun y => ((sortK_perm (keyIn_of hr)).mem_iff).trans hp.mem_iff, hne, ?_⟩
    obtain ⟨new, b, e1, e2, e3, e4⟩ := seek_at hi (trK 2 l) h [] [] hat rfl
    have hnl : nodesL l = new := by unfold nodesL; rw [if_neg hne, e1]; rfl
    unfold seekD
    rw [hnl, e2]
    show ([] ++ b).getLastD 0 = h
    rw [List.getLastD_eq_getLast?, e4]; rfl
theorem seek_of {s : Sh} {h : Int} {S : List En} (ho : OkL S) (hne : S ≠ []) (hh : h ≠ 0) (hs : seekD s (nodesL S) = h) : hasT s h = some S := by
  refine hasT_some ⟨ho, .inr ⟨hne, ?_⟩⟩
  unfold seekD at hs
  cases e : seekL s [] (nodesL S) with
  | none => rw [e] at hs; exact absurd hs.symm hh
  | some c =>
    rw [e] at hs
    have hnl : nodesL S = fl (trK 2 S) [] := by unfold nodesL; rw [if_neg hne]
    obtain ⟨k, b, _, _, e3, e4⟩ := at_seek (trK 2 S) [] [] c (nodesL S) rfl (by rw [hnl]; rfl) e
    have hs : c.getLastD 0 = h := hs
    rw [List.getLastD_eq_getLast?, e3] at hs
    have hs : k = h := hs
    rw [← hs]; exact e4
theorem has_of {s : Sh} {h : Int} {L : List En} (hr : ∀ x ∈ L, rightE x = true) (hd : DisK L) (hne : sortK L 1024 ≠ []) (hh : h ≠ 0) (hs : seekD s (nodesL (sortK L 1024)) = h) : hasT s h = some (sortK L 1024) :=
  seek_of (sort_ok hr hd) hne hh hs
theorem has_zero (s : Sh) : hasT s 0 = some [] := hasT_some ⟨OkL.nil, .inl ⟨rfl, rfl⟩⟩
theorem has_below {room : Nat} {s : Sh} (hi : Inv room s) {h : Int} (hh : h ≠ 0) (e : belL s 4 h = none) : hasT s h = none :=
  hasT_none fun l a => by
    obtain ⟨L, h1, _⟩ := has_yes hi hh a
    rw [e] at h1; cases h1
theorem has_bad {room : Nat} {s : Sh} (hi : Inv room s) {h : Int} (hh : h ≠ 0) {L : List En} (e : belL s 4 h = some L) {x : En} (hx : x ∈ L) (hr : rightE x = false) : hasT s h = none :=
  hasT_none fun l a => by
    obtain ⟨L', h1, h2, _⟩ := has_yes hi hh a
    rw [e] at h1
    obtain rfl := Option.some.inj h1
    rw [h2 x hx] at hr; cases hr
theorem has_twice {room : Nat} {s : Sh} (hi : Inv room s) {h : Int} (hh : h ≠ 0) {L : List En} (e : belL s 4 h = some L) (hd : ¬ DisK L) : hasT s h = none :=
  hasT_none fun l a => by
    obtain ⟨L', h1, _, h3, _⟩ := has_yes hi hh a
    rw [e] at h1
    obtain rfl := Option.some.inj h1
    exact hd h3
theorem has_empty {room : Nat} {s : Sh} (hi : Inv room s) {h : Int} (hh : h ≠ 0) {L : List En} (e : belL s 4 h = some L) (hs : sortK L 1024 = []) : hasT s h = none :=
  hasT_none fun l a => by
    obtain ⟨L', h1, _, _, h4, h5, _⟩ := has_yes hi hh a
    rw [e] at h1
    obtain rfl := Option.some.inj h1
    exact h5 (h4.symm.trans hs)
theorem has_other {room : Nat} {s : Sh} (hi : Inv room s) {h : Int} (hh : h ≠ 0) {L : List En} (e : belL s 4 h = some L) (hs : seekD s (nodesL (sortK L 1024)) ≠ h) : hasT s h = none :=
  hasT_none fun l a => by
    obtain ⟨L', h1, _, _, h4, _, h6⟩ := has_yes hi hh a
    rw [e] at h1
    obtain rfl := Option.some.inj h1
    rw [h4] at hs; exact hs h6
theorem dis_not {L : List En} {i k : Nat} {x y : En} (hk : k < i) (hy : L[k]? = some y) (hx : L[i]? = some x) (e : y.key = x.key) : ¬ DisK L := fun h => by
  obtain ⟨h1, rfl⟩ := List.getElem?_eq_some_iff.1 hy
  obtain ⟨h2, rfl⟩ := List.getElem?_eq_some_iff.1 hx
  exact List.pairwise_iff_getElem.1 h k i h1 h2 hk e
theorem dis_next {L : List En} {i : Nat} {x : En} (hx : L[i]? = some x) (h : DisK (L.take i)) (hn : ∀ y ∈ L.take i, y.key ≠ x.key) : DisK (L.take (i + 1)) := by
  rw [List.take_add_one, hx]
  exact List.pairwise_append.2 ⟨h, List.pairwise_singleton _ _, fun a ha b hb => by
    obtain rfl : b = x := by simpa using hb
    exact hn a ha⟩
mutual
theorem fl_negs : ∀ (t : Tr) (out : List Nd), (∀ (i : Nat) (n : Nd), out[i]? = some n → NegR i n.refs) → ∀ (i : Nat) (n : Nd), (fl t out)[i]? = some n → NegR i n.refs
  | .mk k nums text kids, out, h, i, n, hn => by
    obtain ⟨h1, h2⟩ := flL_negs kids out [] h (fun r hr => by cases hr)
    rw [fl] at hn
    by_cases hl : i < (flL kids out []).1.length
    · rw [List.getElem?_append_left hl] at hn
      exact h1 i n hn
    · rw [List.getElem?_append_right (by omega)] at hn
      have hi : i = (flL kids out []).1.length := by
        have := (List.getElem?_eq_some_iff.1 hn).1
        simp at this; omega
      subst hi
      rw [Nat.sub_self] at hn
      obtain rfl := Option.some.inj hn
      exact h2
theorem flL_negs : ∀ (ts : List Tr) (out : List Nd) (refs : List Int), (∀ (i : Nat) (n : Nd), out[i]? = some n → NegR i n.refs) → NegR out.length refs → (∀ (i : Nat) (n : Nd), (flL ts out refs).1[i]? = some n → NegR i n.refs) ∧ NegR (flL ts out refs).1.length (flL ts out refs).2
  | [], out, refs, h, hr => by rw [flL]; exact ⟨h, hr⟩
  | t :: ts, out, refs, h, hr => by
    rw [flL]
    have hp := fl_pos t out
    refine flL_negs ts (fl t out) _ (fl_negs t out h) fun r hm => ?_
    rcases List.mem_append.1 hm with e | e
    · have := hr r e
      exact ⟨this.1, by omega⟩
    · rw [List.mem_singleton.1 e]; omega
end
theorem nodes_negs (l : List En) (i : Nat) (n : Nd) (hn : (nodesL l)[i]? = some n) : NegR i n.refs := by
  unfold nodesL at hn
  split at hn
  · simp at hn
  · exact fl_negs (trK 2 l) [] (fun i n h => by simp at h) i n hn
end Go.Proofs.YtjgadggehpmdkaaGreatDoor
namespace Go.Proofs.YtjgadggehpmdkaaGreatDoor
open Go.RowKit
set_option maxHeartbeats 4000000 in
set_option maxRecDepth 10000 in
theorem rhash_any (k : Int) (w : World) : Calls Tryz.prog 21 #[.int .i64 k] w fun e w' => e = .returned (.int .i64 (hashK k)) ∧ w' = w := by
  by_cases h0 : k < 0
  · have d0 : decide (k < 0) = true := decide_eq_true h0
    have e : hashK k = -1 := by unfold hashK; rw [if_neg (by omega)]
    rw [e]
    clear e h0
    go_enter Tryz.func21, Tryz.ntmps21
    go_wp2_with fail
    go_ret
    exact ⟨rfl, rfl⟩
  · have d0 : decide (k < 0) = false := decide_eq_false h0
    by_cases h1 : (1023 : Int) < k
    · have d1 : decide ((1023 : Int) < k) = true := decide_eq_true h1
      have e : hashK k = -1 := by unfold hashK; rw [if_neg (by omega)]
      rw [e]
      clear e
      go_enter Tryz.func21, Tryz.ntmps21
      go_wp2_with fail
      go_ret
      exact ⟨rfl, rfl⟩
    · have d1 : decide ((1023 : Int) < k) = false := decide_eq_false h1
      have HE : Hid (41 * k % 1024 / 2 = hashK k) := Lib.hid (by unfold hashK; rw [if_pos (by omega)])
      have hk0 : 0 ≤ k := by omega
      have hk1 : k < 1024 := by omega
      clear h0 h1
      go_enter Tryz.func21, Tryz.ntmps21
      go_wp2_with fail
      go_ret
      exact ⟨by rw [← HE.out]; rfl, rfl⟩
set_option maxHeartbeats 4000000 in
set_option maxRecDepth 10000 in
theorem rdigit_any (k : Int) (hk : 0 ≤ k ∧ k ≤ 1023) (lv : Nat) (w : World) : Calls Tryz.prog 59 #[.int .i64 k, .int .i64 (lv : Int)] w fun e w' => e = .returned (.int .i64 (digK k lv)) ∧ w' = w := by
  have HH := Lib.hid (fun w => rhash_any k w)
  have hb := hash_bound hk
  have hp := hb.1
  have hq := hb.2
  by_cases h0 : lv = 0
  · have d0 : ((lv : Int) == 0) = true := by rw [h0]; rfl
    have HD : Hid (hashK k % 32 = digK k lv) := Lib.hid (by unfold digK; rw [if_pos h0])
    generalize hashK k = H at *
    clear hb hk h0
    go_enter Tryz.func59, Tryz.ntmps59
    go_wp2_with fail
    refine (HH.out w).mono ?_; rintro e w1 ⟨rfl, rfl⟩
    go_wp2_with fail
    go_ret
    exact ⟨by rw [← HD.out]; rfl, rfl⟩
  · have d0 : ((lv : Int) == 0) = false := by
      rw [beq_eq_false_iff_ne]; omega
    have HD : Hid (hashK k / 32 = digK k lv) := Lib.hid (by unfold digK; rw [if_neg h0])
    generalize hashK k = H at *
    clear hb hk h0
    go_enter Tryz.func59, Tryz.ntmps59
    go_wp2_with fail
    refine (HH.out w).mono ?_; rintro e w1 ⟨rfl, rfl⟩
    go_wp2_with fail
    go_ret
    exact ⟨by rw [← HD.out]; rfl, rfl⟩
end Go.Proofs.YtjgadggehpmdkaaGreatDoor
namespace Go.Proofs.YtjgadggehpmdkaaGreatDoor
open Go.RowKit
theorem rent_info : (Tryz.prog.info? 68).map (fun i => (i.zero, i.size, i.bytes)) = some (some (.agg #[.int .i64 0, .string ⟨#[]⟩]), 2, 24) := by kernel_rfl
set_option maxHeartbeats 4000000 in
set_option maxRecDepth 10000 in
theorem rright_any (x : En) (w : World) (hl : x.text.length ≤ maxLen) : Calls Tryz.prog 36 #[.agg #[.int .i64 x.key, .string ⟨x.text.toArray⟩]] w fun e w' => e = .returned (.bool (rightE x)) ∧ Below w.heap.size w w' := by
  obtain ⟨k, t⟩ := x
  have hba : Below w.heap.size w (w.alloc (.cells #[.int .i64 k, .string ⟨t.toArray⟩] 68)) := (Below.refl _ _).alloc (Nat.le_refl _) _
  have HB := Lib.hid hba
  clear hba
  have hl : t.length ≤ maxLen := hl
  have HR : Hid (rightE ⟨k, t⟩ = (decide (0 ≤ k) && (decide (k ≤ 1023) && (decide ((1 : Int) ≤ (t.length : Int)) && decide ((t.length : Int) ≤ 200))))) := Lib.hid (by
    unfold rightE
    show (decide (0 ≤ k) && (decide (k ≤ 1023) && (decide (1 ≤ t.length) && decide (t.length ≤ 200)))) = _
    congr 3
    · exact decide_eq_decide.2 (by omega)
    · exact decide_eq_decide.2 (by omega))
  cases h0 : decide (0 ≤ k) with
  | false =>
    rw [h0] at HR
    go_enter Tryz.func36, Tryz.ntmps36
    go_wp2_with fail
    go_ret
    exact ⟨by rw [HR.out]; rfl, HB.out⟩
  | true =>
    cases h1 : decide (k ≤ 1023) with
    | false =>
      rw [h0, h1] at HR
      go_enter Tryz.func36, Tryz.ntmps36
      go_wp2_with fail
      go_ret
      exact ⟨by rw [HR.out]; rfl, HB.out⟩
    | true =>
      cases h2 : decide ((1 : Int) ≤ (t.length : Int)) with
      | false =>
        rw [h0, h1, h2] at HR
        go_enter Tryz.func36, Tryz.ntmps36
        go_wp2_with fail
        go_ret
        exact ⟨by rw [HR.out]; rfl, HB.out⟩
      | true =>
        rw [h0, h1, h2] at HR
        go_enter Tryz.func36, Tryz.ntmps36
        go_wp2_with fail
        go_ret
        exact ⟨by rw [HR.out]; rfl, HB.out⟩
set_option maxHeartbeats 8000000 in
set_option maxRecDepth 10000 in
theorem lof_any (l : List En) (A : Option Addr) (ca : Nat) (w : World) {Q : Nat → Prop} (hl : RowE w Q A l) (hll : l.length ≤ 1000000) :
    Calls Tryz.prog 13 #[.slice A l.length ca] w fun e w' => ∃ O co, e = .returned (.slice O l.length co) ∧ l.length ≤ co ∧ RowE w' (fun g => w.heap.size ≤ g) O l ∧ Below w.heap.size w w' := by
  obtain ⟨i0, hi0, hz0, hz1, hz2⟩ := info_parts rent_info
  have HL := Lib.hid hl
  clear hl
  go_enter Tryz.func13, Tryz.ntmps13
  go_wp2_with fail
  go_loopw [3, 4] (fun v vi wr => ∃ (i : Nat), i ≤ l.length ∧ vi = .int .i64 (i : Int) ∧ Hid (OwnR 68 2 enW w.heap.size wr v (l.take i)) ∧ Below w.heap.size w wr) (fun _ vi _ => l.length - (RowKit.intOf vi).toNat)
  case atStart => exact ⟨0, Nat.zero_le _, rfl, Lib.hid (by rw [List.take_zero]; exact World.ownsRow_nil _ _ _ _), Below.refl _ _⟩
  case round =>
    obtain ⟨i, hi, rfl, HO, hb⟩ := hrel
    by_cases hlt : i < l.length
    · obtain ⟨x, hx⟩ : ∃ x, l[i]? = some x := ⟨_, List.getElem?_eq_getElem hlt⟩
      obtain ⟨g, o, rfl, _, hgl, hat⟩ := HL.out.at hlt
      obtain ⟨q0, q1⟩ := hat.two hx
      have k0 := keep_cell hb q0
      have k1 := keep_cell hb q1
      have hI : (i : Int) < (l.length : Int) := by omega
      have hbs := hb.size
      have hsp : l.take (i + 1) = l.take i ++ [x] := by rw [List.take_add_one, hx]; rfl
      have HE := Lib.hid hsp
      have hlen : (l.take i).length = i := by rw [List.length_take]; omega
      have HLn := Lib.hid hlen
      obtain ⟨kx, tx⟩ := x
      clear hat q0 q1 hx hsp hlen
      have HB := Lib.hid hb
      have hge : w.heap.size ≤ (wr.alloc (.cells (enW ⟨kx, tx⟩).toArray 68)).heap.size := by simp; omega
      clear hb
      go_wp2_with fail
      go_region_law (first
        | (refine step_append_rows (f := enW) (n := 2) (E := 68) (nb := 24) (X := l.take i) (base := w.heap.size) (by rfl) _ _ (by rfl) (by rfl) (OwnR.below HO.out (by with_reducible repeat' (first | exact Below.refl _ _ | exact Nat.le_refl _ | refine Below.drew ?_ | refine Below.alloc ?_ ?_ _))) (L2 := [(⟨kx, tx⟩ : En)]) (by rfl) (by first | exact one_row _ (⟨kx, tx⟩ : En) | exact one_row _ _) (by simp) (N := i + 1) (by rw [HLn.out]; rfl) (Z := l.take (i + 1)) HE.out.symm Tryz.underlying39 hi0 hz0 hz1 hz2 (by rfl) (by decide) (by decide) (fun _ => rfl) enW_one (by first | omega | (simp; omega)) (by first | omega | (simp; done) | (simp; omega)) ?_; intro g4 k4 w4 ho4 hg4 hat4 hl4
           have hb4 : Below w.heap.size w w4 := HB.out.trans (Below.grown (by with_reducible repeat' (first | exact Below.refl _ _ | exact Nat.le_refl _ | exact hbs | refine Below.drew ?_ | refine Below.alloc ?_ ?_ _)) hg4 (by first | omega | (simp; done) | (simp; omega)) (fun k hk => (World.ownsRow.lt HO.out k hk).1))
           have HO4 := Lib.hid ho4
           clear ho4 hg4 hat4 hl4)
        | fail)
      all_goals
        go_wp2_with fail
        go_roundw
        case rel => exact ⟨i + 1, by omega, by go_num, HO4, hb4⟩
        case measure => simp [RowKit.intOf]; omega
    · have hii : i = l.length := by omega
      subst hii
      have hO := HO.out
      rw [List.take_length] at hO
      obtain ⟨O, co, hv, hc, hr⟩ := own_rowE hO
      subst hv
      have HR := Lib.hid hr
      clear hr hO
      go_wp2_with fail
      go_ret
      exact ⟨O, co, rfl, hc, HR.out, hb⟩
end Go.Proofs.YtjgadggehpmdkaaGreatDoor
namespace Go.Proofs.YtjgadggehpmdkaaGreatDoor
open Go.RowKit
theorem one_next {x y : En} {r : List En} {i : Nat} (hy : r[i]? = some y) (h : oneH (x :: r.take i) = true) (e : hashK y.key = hashK x.key) : oneH (x :: r.take (i + 1)) = true := by
  show ((r.take (i + 1)).all fun y => decide (hashK y.key = hashK x.key)) = true
  have h : ((r.take i).all fun y => decide (hashK y.key = hashK x.key)) = true := h
  rw [List.take_add_one, hy, List.all_append, h]
  simp [e]
theorem one_not {x y : En} {r : List En} {i : Nat} (hy : r[i]? = some y) (e : hashK y.key ≠ hashK x.key) : oneH (x :: r) = false := by
  show (r.all fun y => decide (hashK y.key = hashK x.key)) = false
  exact List.all_eq_false.2 ⟨y, List.mem_of_getElem? hy, by simpa using e⟩
set_option maxHeartbeats 8000000 in
set_option maxRecDepth 10000 in
theorem rone1_any (x : En) (r : List En) (A : Option Addr) (ca : Nat) (w : World) {Q : Nat → Prop} (hl : RowE w Q A (x :: r)) (hll : (x :: r).length ≤ 1000000) :
    Calls Tryz.prog 58 #[.slice A (x :: r).length ca] w fun e w' => e = .returned (.bool (oneH (x :: r))) ∧ ∃ n, w' = w.drewN n := by
  obtain ⟨g, o, rfl, _, hgl, hat⟩ := hl.at (i := 0) (by simp)
  obtain ⟨q0, _⟩ := hat.two (i := 0) (x := x) rfl
  rw [Nat.zero_mul, Nat.add_zero] at q0
  have HAt := Lib.hid hat
  have HH := Lib.hid (fun k w => rhash_any k w)
  have HLn : Hid ((x :: r).length = r.length + 1) := Lib.hid (by simp)
  have hr : r.length + 1 ≤ 1000000 := by simpa using hll
  have hL0 : (0 : Int) < ((x :: r).length : Int) := by rw [HLn.out]; omega
  clear hat hl hll
  go_enter Tryz.func58, Tryz.ntmps58
  go_wp2_with fail
  go_loopw [3] (fun vi wr => ∃ i : Nat, i ≤ r.length ∧ vi = .int .i64 ((i : Int) + 1) ∧ Hid (oneH (x :: r.take i) = true) ∧ ∃ n, wr = w.drewN n) (fun vi _ => r.length + 1 - (RowKit.intOf vi).toNat)
  case atStart => exact ⟨0, Nat.zero_le _, rfl, Lib.hid (by rw [List.take_zero]; rfl), 0, rfl⟩
  case round =>
    obtain ⟨i, hi, rfl, HO, nd, rfl⟩ := hrel
    by_cases hlt : i < r.length
    · obtain ⟨y, hy⟩ : ∃ y, r[i]? = some y := ⟨_, List.getElem?_eq_getElem hlt⟩
      obtain ⟨q1, _⟩ := HAt.out.two (i := i + 1) (x := y) (by simpa using hy)
      have hI : (i : Int) + 1 < ((x :: r).length : Int) := by rw [HLn.out]; omega
      have hJ : (0 : Int) ≤ (i : Int) + 1 := by omega
      have HN := Lib.hid (one_next hy HO.out)
      have HF := Lib.hid (one_not (x := x) hy)
      clear hy
      generalize y.key = k1 at *
      generalize x.key = k0 at *
      by_cases e : hashK k1 = hashK k0
      · have d0 : (hashK k1 != hashK k0) = false := by simpa using e
        have HN2 := Lib.hid (HN.out e)
        clear e HF HN
        go_wp2_with fail
        go_region_law (first
          | (go_simp; go_at_call 21; refine (HH.out _ _).mono ?_; rintro e w1 ⟨rfl, rfl⟩)
          | fail)
        all_goals
          go_wp2_with fail
          go_roundw
          case rel => exact ⟨i + 1, by omega, by go_num, HN2, nd + 1, by first | rfl | (simp only [World.drewN]; done)⟩
          case measure => simp [RowKit.intOf]; omega
      · have d0 : (hashK k1 != hashK k0) = true := by simpa using e
        have HF2 := Lib.hid (HF.out e)
        clear e HF HN
        go_wp2_with fail
        go_region_law (first
          | (go_simp; go_at_call 21; refine (HH.out _ _).mono ?_; rintro e w1 ⟨rfl, rfl⟩)
          | fail)
        all_goals
          go_wp2_with fail
          go_ret
          exact ⟨by rw [HF2.out]; rfl, nd + 1, by first | rfl | (simp only [World.drewN]; done)⟩
    · have hii : i = r.length := by omega
      subst hii
      have hO := HO.out
      rw [List.take_length] at hO
      have HO2 := Lib.hid hO
      have hI : ¬ ((r.length : Int) + 1 < ((x :: r).length : Int)) := by rw [HLn.out]; omega
      have d1 : decide ((r.length : Int) + 1 < ((x :: r).length : Int)) = false := decide_eq_false hI
      clear hO
      go_wp2_with fail
      go_ret
      exact ⟨by rw [HO2.out]; rfl, nd, rfl⟩
theorem get_next {l : List En} {i : Nat} {x : En} {k : Int} (hx : l[i]? = some x) (e : x.key ≠ k) (h : ∀ y ∈ l.take i, y.key ≠ k) : ∀ y ∈ l.take (i + 1), y.key ≠ k := fun y hy => by
  rw [List.take_add_one, hx] at hy
  rcases List.mem_append.1 hy with q | q
  · exact h y q
  · obtain rfl : y = x := by simpa using q
    exact e
theorem get_at {l : List En} : ∀ {i : Nat} {x : En} {k : Int}, l[i]? = some x → x.key = k → (∀ y ∈ l.take i, y.key ≠ k) → getL l k = some x.text := by
  induction l with
  | nil => intro i x k h; simp at h
  | cons z l ih =>
    intro i x k h e hn
    rw [getL]
    cases i with
    | zero =>
      obtain rfl : z = x := by simpa using h
      rw [if_pos e]
    | succ i =>
      have := hn z (by simp)
      rw [if_neg this]
      exact ih (by simpa using h) e fun y hy => hn y (by simp [hy])
set_option maxHeartbeats 8000000 in
set_option maxRecDepth 10000 in
theorem rgetE_any (l : List En) (A : Option Addr) (ca : Nat) (w : World) {Q : Nat → Prop} (hl : RowE w Q A l) (hll : l.length ≤ 1000000) (k : Int) :
    Calls Tryz.prog 16 #[.slice A l.length ca, .int .i64 k] w fun e w' => e = .returned (.tuple #[.string ⟨((getL l k).getD []).toArray⟩, .bool (getL l k).isSome]) ∧ w' = w := by
  have HL := Lib.hid hl
  clear hl
  go_enter Tryz.func16, Tryz.ntmps16
  go_wp2_with fail
  go_loopw [6] (fun vi wr => ∃ i : Nat, i ≤ l.length ∧ vi = .int .i64 (i : Int) ∧ Hid (∀ y ∈ l.take i, y.key ≠ k) ∧ wr = w) (fun vi _ => l.length - (RowKit.intOf vi).toNat)
  case atStart => exact ⟨0, Nat.zero_le _, rfl, Lib.hid (by simp), rfl⟩
  case round =>
    obtain ⟨i, hi, rfl, HN, rfl⟩ := hrel
    by_cases hlt : i < l.length
    · obtain ⟨x, hx⟩ : ∃ x, l[i]? = some x := ⟨_, List.getElem?_eq_getElem hlt⟩
      obtain ⟨g, o, rfl, _, hgl, hat⟩ := HL.out.at hlt
      obtain ⟨q0, q1⟩ := hat.two hx
      have hI : (i : Int) < (l.length : Int) := by omega
      have hJ : (0 : Int) ≤ (i : Int) := by omega
      by_cases e : x.key = k
      · have d0 : (x.key == k) = true := by simpa using e
        have HG := Lib.hid (get_at hx e HN.out)
        obtain ⟨kx, tx⟩ := x
        clear e hx hat
        go_wp2_with fail
        go_ret2
        exact ⟨by rw [HG.out]; rfl, rfl⟩
      · have d0 : (x.key == k) = false := by simpa using e
        have HN2 := Lib.hid (get_next hx e HN.out)
        obtain ⟨kx, tx⟩ := x
        clear e hx hat
        go_wp2_with fail
        go_roundw
        case rel => exact ⟨i + 1, by omega, by go_num, HN2, trivial⟩
        case measure => simp [RowKit.intOf]; omega
    · have hii : i = l.length := by omega
      subst hii
      have hn := HN.out
      rw [List.take_length] at hn
      have HG := Lib.hid (getL_none.2 hn)
      clear hn
      go_wp2_with fail
      go_ret2
      exact ⟨by rw [HG.out]; rfl, rfl⟩
theorem drop_take {l : List En} {i : Nat} {x : En} (hx : l[i]? = some x) (k : Int) : dropK (l.take (i + 1)) k = dropK (l.take i) k ++ (if x.key = k then [] else [x]) := by
  unfold dropK
  rw [List.take_add_one, hx, List.filter_append]
  congr 1
  by_cases e : x.key = k
  · rw [if_pos e]; simp [e]
  · rw [if_neg e]; simp [e]
set_option maxHeartbeats 8000000 in
set_option maxRecDepth 10000 in
theorem rwithout_any (l : List En) (A : Option Addr) (ca : Nat) (w : World) {Q : Nat → Prop} (hl : RowE w Q A l) (hll : l.length ≤ 1000000) (k : Int) :
    Calls Tryz.prog 49 #[.slice A l.length ca, .int .i64 k] w fun e w' => ∃ O co, e = .returned (.slice O (dropK l k).length co) ∧ OwnR 68 2 enW w.heap.size w' (.slice O (dropK l k).length co) (dropK l k) ∧ Below w.heap.size w w' := by
  obtain ⟨i0, hi0, hz0, hz1, hz2⟩ := info_parts rent_info
  have HL := Lib.hid hl
  clear hl
  go_enter Tryz.func49, Tryz.ntmps49
  go_wp2_with fail
  go_loopw [5, 6] (fun v vi wr => ∃ i : Nat, i ≤ l.length ∧ vi = .int .i64 (i : Int) ∧ Hid (OwnR 68 2 enW w.heap.size wr v (dropK (l.take i) k)) ∧ Below w.heap.size w wr) (fun _ vi _ => l.length - (RowKit.intOf vi).toNat)
  case atStart => exact ⟨0, Nat.zero_le _, rfl, Lib.hid (by rw [List.take_zero]; exact World.ownsRow_nil _ _ _ _), Below.refl _ _⟩
  case round =>
    obtain ⟨i, hi, rfl, HO, hb⟩ := hrel
    by_cases hlt : i < l.length
    · obtain ⟨x, hx⟩ : ∃ x, l[i]? = some x := ⟨_, List.getElem?_eq_getElem hlt⟩
      obtain ⟨g, o, rfl, _, hgl, hat⟩ := HL.out.at hlt
      obtain ⟨q0, q1⟩ := hat.two hx
      have k0 := keep_cell hb q0
      have k1 := keep_cell hb q1
      have hI : (i : Int) < (l.length : Int) := by omega
      have hJ : (0 : Int) ≤ (i : Int) := by omega
      have hbs := hb.size
      have hlen : (dropK (l.take i) k).length ≤ i := by
        unfold dropK
        have := List.length_filter_le (fun x => !decide (x.key = k)) (l.take i)
        rw [List.length_take] at this
        omega
      have HE := Lib.hid (drop_take hx k)
      by_cases e : x.key = k
      · have d0 : (x.key != k) = false := by simpa using e
        have hE := HE.out
        rw [if_pos e, List.append_nil] at hE
        rw [← hE] at HO
        obtain ⟨kx, tx⟩ := x
        clear e hx hat hE HE q0 q1
        go_wp2_with fail
        go_roundw
        case rel => exact ⟨i + 1, by omega, by go_num, HO, hb⟩
        case measure => simp [RowKit.intOf]; omega
      · have d0 : (x.key != k) = true := by simpa using e
        have hE := HE.out
        rw [if_neg e] at hE
        have HE2 := Lib.hid hE
        obtain ⟨kx, tx⟩ := x
        have b0 : Below w.heap.size wr (wr.alloc (.cells (enW ⟨kx, tx⟩).toArray 68)) := (Below.refl _ _).alloc hbs _
        obtain ⟨NN, hNN⟩ : ∃ NN, (dropK (l.take i) k).length = NN := ⟨_, rfl⟩
        rw [hNN] at hlen
        have HNN := Lib.hid hNN
        clear e hx hat hE HE q0 q1 hNN
        go_wp2_with (at_builtin; refine of_stop ?_)
        refine stop_of ?_
        refine wpList_append_rows (f := enW) (n := 2) (E := 68) (nb := 24) (X := dropK (l.take i) k) (base := w.heap.size) rfl _ _ rfl rfl (OwnR.below HO.out (by first | exact (Below.refl _ _).alloc (Nat.le_refl _) _ | exact ((Below.refl _ _).alloc (Nat.le_refl _) _).drew)) (L2 := [(⟨kx, tx⟩ : En)]) rfl (one_row wr (⟨kx, tx⟩ : En)) (by simp) (N := NN + 1) (by rw [HNN.out]; rfl) (Z := dropK (l.take (i + 1)) k) HE2.out.symm Tryz.underlying39 hi0 hz0 hz1 hz2 rfl (by decide) (by decide) (fun _ => rfl) enW_one (by omega) (by simp; omega) ?_
        intro g4 k4 w4 ho4 hg4 hat4 hl4
        have hb4 : Below w.heap.size w w4 := hb.trans (Below.grown (by first | exact b0 | exact b0.drew) hg4 (by simp; omega) (fun k hk => (World.ownsRow.lt HO.out k hk).1))
        have HO4 := Lib.hid ho4
        clear ho4 hg4 hat4 hl4
        go_wp2_with fail
        go_roundw
        case rel => exact ⟨i + 1, by omega, by go_num, HO4, hb4⟩
        case measure => simp [RowKit.intOf]; omega
    · have hii : i = l.length := by omega
      subst hii
      have hO := HO.out
      rw [List.take_length] at hO
      obtain ⟨O, co, hv, _, _⟩ := OwnR.shape (f := enW) (fun _ => rfl) hO
      subst hv
      have HO2 := Lib.hid hO
      clear hO HO
      go_wp2_with fail
      go_ret
      exact ⟨O, co, rfl, HO2.out, hb⟩
end Go.Proofs.YtjgadggehpmdkaaGreatDoor
namespace Go.Proofs.YtjgadggehpmdkaaGreatDoor
open Go.RowKit
theorem fil_len (n : Nat) : ∀ l : List En, (l.filter (fun x => decide (0 ≤ x.key ∧ x.key < (n : Int)))).length + (l.filter (fun x => decide (x.key = (n : Int)))).length = (l.filter (fun x => decide (0 ≤ x.key ∧ x.key < ((n + 1 : Nat) : Int)))).length
  | [] => rfl
  | x :: l => by
    have ih := fil_len n l
    rw [List.filter_cons, List.filter_cons, List.filter_cons]
    by_cases h1 : x.key = (n : Int)
    · rw [if_neg (by simp; omega), if_pos (by simpa using h1), if_pos (by simp; omega), List.length_cons, List.length_cons]; omega
    · by_cases h2 : 0 ≤ x.key ∧ x.key < (n : Int)
      · rw [if_pos (by simpa using h2), if_neg (by simpa using h1), if_pos (by simp; omega), List.length_cons, List.length_cons]; omega
      · rw [if_neg (by simpa using h2), if_neg (by simpa using h1), if_neg (by simp; omega)]; omega
theorem sortK_fil (l : List En) : ∀ n : Nat, (sortK l n).length = (l.filter (fun x => decide (0 ≤ x.key ∧ x.key < (n : Int)))).length
  | 0 => by
    rw [sortK]
    symm
    rw [List.length_nil, List.length_eq_zero_iff, List.filter_eq_nil_iff]
    intro x _
    simp
  | n + 1 => by rw [sortK, List.length_append, sortK_fil l n, fil_len]
def kyF (l : List En) (n i : Nat) : List En := (l.take i).filter (fun x => decide (x.key = (n : Int)))
theorem kyF_next {l : List En} {n i : Nat} {x : En} (hx : l[i]? = some x) : kyF l n (i + 1) = kyF l n i ++ (if x.key = (n : Int) then [x] else []) := by
  unfold kyF
  rw [List.take_add_one, hx, List.filter_append]
  congr 1
  by_cases e : x.key = (n : Int)
  · rw [if_pos e]; simp [e]
  · rw [if_neg e]; simp [e]
theorem kyF_zero (l : List En) (n : Nat) : kyF l n 0 = [] := by unfold kyF; rw [List.take_zero]; rfl
theorem kyF_all (l : List En) (n : Nat) : sortK l n ++ kyF l n l.length = sortK l (n + 1) := by unfold kyF; rw [List.take_length, sortK]
theorem ky_bound (l : List En) (n i : Nat) : (sortK l n ++ kyF l n i).length ≤ l.length := by
  have h1 := fil_len n l
  have h2 := List.length_filter_le (fun x : En => decide (0 ≤ x.key ∧ x.key < ((n + 1 : Nat) : Int))) l
  have h3 : (kyF l n i).length ≤ (l.filter (fun x => decide (x.key = (n : Int)))).length := by
    unfold kyF
    exact ((List.take_sublist i l).filter _).length_le
  rw [List.length_append, sortK_fil]
  omega
set_option maxHeartbeats 8000000 in
set_option maxRecDepth 10000 in
theorem rsorted_any (l : List En) (A : Option Addr) (ca : Nat) (w : World) {Q : Nat → Prop} (hl : RowE w Q A l) (hll : l.length ≤ 100000) :
    Calls Tryz.prog 37 #[.slice A l.length ca] w fun e w' => ∃ O co, e = .returned (.slice O (sortK l 1024).length co) ∧ (sortK l 1024).length ≤ co ∧ RowE w' (fun g => w.heap.size ≤ g) O (sortK l 1024) ∧ Below w.heap.size w w' := by
  obtain ⟨i0, hi0, hz0, hz1, hz2⟩ := info_parts rent_info
  have HL := Lib.hid hl
  obtain ⟨M, hM⟩ : ∃ M : Nat, M = 1024 := ⟨_, rfl⟩
  have HM := Lib.hid hM
  rw [← hM]
  clear hl
  go_enter Tryz.func37, Tryz.ntmps37
  go_wp2_with fail
  go_loopw [3, 4, 5] (fun v vk _ wr => ∃ n : Nat, n ≤ M ∧ vk = .int .i64 (n : Int) ∧ Hid (OwnR 68 2 enW w.heap.size wr v (sortK l n)) ∧ Below w.heap.size w wr) (fun _ vk _ _ => 1024 - (RowKit.intOf vk).toNat)
  case atStart => exact ⟨0, Nat.zero_le _, rfl, Lib.hid (World.ownsRow_nil _ _ _ _), Below.refl _ _⟩
  case round =>
    obtain ⟨n, hn, rfl, HO, hb⟩ := hrel
    by_cases hnl : n ≤ 1023
    · have hN : (n : Int) ≤ 1023 := by omega
      have HO0 : Hid (OwnR 68 2 enW w.heap.size wr _ (sortK l n ++ kyF l n 0)) := Lib.hid (by rw [kyF_zero, List.append_nil]; exact HO.out)
      clear HO
      go_wp2_with fail
      go_loopw [3, 5] (fun v vi wr2 => ∃ i : Nat, i ≤ l.length ∧ vi = .int .i64 (i : Int) ∧ Hid (OwnR 68 2 enW w.heap.size wr2 v (sortK l n ++ kyF l n i)) ∧ Below w.heap.size w wr2) (fun _ vi _ => l.length - (RowKit.intOf vi).toNat)
      case atStart => exact ⟨0, Nat.zero_le _, rfl, HO0, hb⟩
      case round =>
        clear HO0 hb
        obtain ⟨i, hi, rfl, HO, hb⟩ := hrel
        by_cases hlt : i < l.length
        · obtain ⟨x, hx⟩ : ∃ x, l[i]? = some x := ⟨_, List.getElem?_eq_getElem hlt⟩
          obtain ⟨g, o, rfl, _, hgl, hat⟩ := HL.out.at hlt
          obtain ⟨q0, q1⟩ := hat.two hx
          have k0 := keep_cell hb q0
          have k1 := keep_cell hb q1
          have hI : (i : Int) < (l.length : Int) := by omega
          have hJ : (0 : Int) ≤ (i : Int) := by omega
          have hbs := hb.size
          have hlen := ky_bound l n i
          have HE := Lib.hid (kyF_next (n := n) hx)
          by_cases e : x.key = (n : Int)
          · have d0 : (x.key == (n : Int)) = true := by simpa using e
            have hE := HE.out
            rw [if_pos e] at hE
            have HE2 : Hid ((sortK l n ++ kyF l n i) ++ [x] = sortK l n ++ kyF l n (i + 1)) := Lib.hid (by rw [hE, List.append_assoc])
            obtain ⟨kx, tx⟩ := x
            have b0 : Below w.heap.size wr (wr.alloc (.cells (enW ⟨kx, tx⟩).toArray 68)) := (Below.refl _ _).alloc hbs _
            obtain ⟨NN, hNN⟩ : ∃ NN, (sortK l n ++ kyF l n i).length = NN := ⟨_, rfl⟩
            rw [hNN] at hlen
            have HNN := Lib.hid hNN
            clear e hx hat hE HE q0 q1 hNN
            generalize sortK l n ++ kyF l n i = XX at *
            go_wp2_with (at_builtin; refine of_stop ?_)
            refine stop_of ?_
            refine wpList_append_rows (f := enW) (n := 2) (E := 68) (nb := 24) (X := XX) (base := w.heap.size) rfl _ _ rfl rfl (OwnR.below HO.out (by first | exact (Below.refl _ _).alloc (Nat.le_refl _) _ | exact ((Below.refl _ _).alloc (Nat.le_refl _) _).drew)) (L2 := [(⟨kx, tx⟩ : En)]) rfl (one_row wr (⟨kx, tx⟩ : En)) (by simp) (N := NN + 1) (by rw [HNN.out]; rfl) (Z := sortK l n ++ kyF l n (i + 1)) HE2.out Tryz.underlying39 hi0 hz0 hz1 hz2 rfl (by decide) (by decide) (fun _ => rfl) enW_one (by omega) (by simp; omega) ?_
            intro g4 k4 w4 ho4 hg4 hat4 hl4
            have hb4 : Below w.heap.size w w4 := hb.trans (Below.grown (by first | exact b0 | exact b0.drew) hg4 (by simp; omega) (fun k hk => (World.ownsRow.lt HO.out k hk).1))
            have HO4 := Lib.hid ho4
            clear ho4 hg4 hat4 hl4
            go_wp2_with fail
            go_roundw
            case rel => exact ⟨i + 1, by omega, by go_num, HO4, hb4⟩
            case measure => simp [RowKit.intOf]; omega
          · have d0 : (x.key == (n : Int)) = false := by simpa using e
            have hE := HE.out
            rw [if_neg e, List.append_nil] at hE
            rw [← hE] at HO
            obtain ⟨kx, tx⟩ := x
            clear e hx hat hE HE q0 q1
            go_wp2_with fail
            go_roundw
            case rel => exact ⟨i + 1, by omega, by go_num, HO, hb⟩
            case measure => simp [RowKit.intOf]; omega
        · have hii : i = l.length := by omega
          subst hii
          have hO := HO.out
          rw [kyF_all] at hO
          have HO2 := Lib.hid hO
          clear hO HO
          go_wp2_with fail
          go_roundw
          case rel => exact ⟨n + 1, by have := HM.out; omega, by go_num, HO2, hb⟩
          case measure => simp [RowKit.intOf]; omega
    · obtain rfl : n = M := by have := HM.out; omega
      have hN : (1023 : Int) < (n : Int) := by have := HM.out; omega
      obtain ⟨O, co, hv, hc, hr⟩ := own_rowE HO.out
      subst hv
      have HR := Lib.hid hr
      clear hr HO
      go_wp2_with fail
      go_ret
      exact ⟨O, co, rfl, hc, HR.out, hb⟩
end Go.Proofs.YtjgadggehpmdkaaGreatDoor
