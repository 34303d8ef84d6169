/- Texts joined: TrY, RtE, TlA. -/
import Derived.Test.YtahdlijkohmdfaaGreatDoorMg33
import Derived.Test.YtahdlijkohmdfaaGreatDoorMg30
import Derived.Test.YtahdlijkohmdfaaGreatDoorMg23
import Derived.Test.YtahdlijkohmdfaaGreatDoorMg28
import Derived.Test.YtahdlijkohmdfaaGreatDoorMg29
set_option linter.all false
set_option linter.unusedVariables false
set_option linter.unusedSimpArgs false
/- The document's own answer whether a tree may be. -/
namespace Go.Proofs.YtahdlijkohmdfaaGreatDoor
open Go.RowKit

set_option maxHeartbeats 2000000 in
set_option maxRecDepth 10000 in
theorem rmay_none (t : Tr) (w : World) (A : Option Addr) (cap : Nat) (h0 : t.kind ≠ 0) (h1 : t.kind ≠ 1) (h2 : t.kind ≠ 2) (h6 : t.kind ≠ 6) (h3 : t.kind ≠ 3) (h4 : t.kind ≠ 4) (h5 : t.kind ≠ 5) :
    Calls Tryz.prog 27 #[tv t A cap] w fun e w' => e = .returned (.bool (mayB t)) ∧ Below w.heap.size w w' := by
  unfold tv
  have HM := Lib.hid (may_no h0 h1 h2 h6 h3 h4 h5)
  have s0 : (t.kind == 0) = false := by rw [beq_eq_false_iff_ne]; exact h0
  have s1 : (t.kind == 1) = false := by rw [beq_eq_false_iff_ne]; exact h1
  have s2 : (t.kind == 2) = false := by rw [beq_eq_false_iff_ne]; exact h2
  have s6 : (t.kind == 6) = false := by rw [beq_eq_false_iff_ne]; exact h6
  have s3 : (t.kind == 3) = false := by rw [beq_eq_false_iff_ne]; exact h3
  have s4 : (t.kind == 4) = false := by rw [beq_eq_false_iff_ne]; exact h4
  have s5 : (t.kind == 5) = false := by rw [beq_eq_false_iff_ne]; exact h5
  clear h0 h1 h2 h6 h3 h4 h5
  go_enter Tryz.func27, Tryz.ntmps27
  go_wp2_with fail
  go_ret
  exact ⟨by rw [HM.out]; rfl, (Below.refl _ _).alloc (Nat.le_refl _) _⟩
/-- whatever tree is asked for -/
theorem rmay_any : ∀ d, MayC d
  | 0 => fun t h => by rw [deep_eq] at h; omega
  | d + 1 => by
    have ih := rmay_any d
    intro t hd hw w P A cap hk
    have hdl := kids_deep hd
    by_cases h0 : t.kind = 0
    · exact rmay_0 t w A cap h0
    by_cases h1 : t.kind = 1
    · exact rmay_1 t w A cap h1
    by_cases h2 : t.kind = 2
    · exact rmay_2 t w A cap h2
    by_cases h6 : t.kind = 6
    · exact rmay_6 t w A cap h6
    by_cases h3 : t.kind = 3
    · exact rmay_3 t w A cap ih hdl hw P hk h3
    by_cases h4 : t.kind = 4
    · exact rmay_4 t w A cap ih hdl hw P hk h4
    by_cases h5 : t.kind = 5
    · by_cases e1 : t.word = [73, 70]
      · exact rmay_5IF t w A cap ih hdl hw P hk e1 h5
      by_cases e2 : t.word = [83, 85, 77]
      · exact rmay_5SUM t w A cap ih hdl hw P hk e2 h5
      by_cases e3 : t.word = [77, 73, 78]
      · exact rmay_5MIN t w A cap ih hdl hw P hk e3 h5
      by_cases e4 : t.word = [77, 65, 88]
      · exact rmay_5MAX t w A cap ih hdl hw P hk e4 h5
      by_cases e5 : t.word = [67, 79, 85, 78, 84]
      · exact rmay_5COUNT t w A cap ih hdl hw P hk e5 h5
      exact rmay_5no t w A cap ih hdl hw P hk e1 e2 e3 e4 e5 h5
    exact rmay_none t w A cap h0 h1 h2 h6 h3 h4 h5
/-- may a tree be? -/
def rightT (t : Tr) : Bool := decide (deepT t ≤ 16) && (t.kind != 6 && mayB t)
set_option maxHeartbeats 2000000 in
set_option maxRecDepth 10000 in
theorem rRight_any (t : Tr) (hd : deepT t ≤ 1000000000) (hw : Wid t) (w : World) (P : Nat → Prop) (A : Option Addr) (cap : Nat) (hk : KV w P t A) :
    Calls Tryz.prog 12 #[tv t A cap] w fun e w' => e = .returned (.bool (rightT t)) ∧ Below w.heap.size w w' := by
  have HD := Lib.hid fun (w : World) (P : Nat → Prop) hk => rdeep_any _ t hd (Nat.le_refl _) hw w P A cap hk
  have HM := Lib.hid fun (w : World) (P : Nat → Prop) hk => rmay_any _ t hd hw w P A cap hk
  have HK := Lib.hid hk
  unfold tv at HD HM
  unfold tv
  have HR : Hid (rightT t = (decide (deepT t ≤ 16) && (t.kind != 6 && mayB t))) := Lib.hid rfl
  clear hk hw
  have hm6 : (t.kind != 6) = !(t.kind == 6) := rfl
  by_cases hq : deepT t ≤ 16
  · have d0 : decide (16 < deepT t) = false := decide_eq_false (by omega)
    rw [decide_eq_true hq] at HR
    cases h6 : (t.kind == 6) with
    | true =>
      rw [hm6, h6] at HR
      clear hm6
      go_enter Tryz.func12, Tryz.ntmps12
      go_wp2_with fail
      refine (HD.out _ _ (HK.out.kept ((Kept.refl _ _).alloc _))).mono ?_; rintro e w1 ⟨rfl, b1⟩
      have k0 := keep_fresh b1 0 (v := .int .i64 t.kind) rfl
      have h1 : Below w.heap.size w w1 := ((Below.refl _ _).alloc (Nat.le_refl _) _).trans (b1.mono (by simp))
      clear b1
      go_wp2_with fail
      go_ret
      exact ⟨by rw [HR.out]; rfl, h1⟩
    | false =>
      rw [hm6, h6] at HR
      clear hm6
      go_enter Tryz.func12, Tryz.ntmps12
      go_wp2_with fail
      refine (HD.out _ _ (HK.out.kept ((Kept.refl _ _).alloc _))).mono ?_; rintro e w1 ⟨rfl, b1⟩
      have k0 := keep_fresh b1 0 (v := .int .i64 t.kind) rfl
      have k1 := keep_fresh b1 1 (v := .int .i64 t.num) rfl
      have k2 := keep_fresh b1 2 (v := .int .i64 t.c1) rfl
      have k3 := keep_fresh b1 3 (v := .int .i64 t.r1) rfl
      have k4 := keep_fresh b1 4 (v := .int .i64 t.c2) rfl
      have k5 := keep_fresh b1 5 (v := .int .i64 t.r2) rfl
      have k6 := keep_fresh b1 6 (v := .string ⟨t.word.toArray⟩) rfl
      have k7 := keep_fresh b1 7 (v := .slice A t.kids.length cap) rfl
      have h1 : Below w.heap.size w w1 := ((Below.refl _ _).alloc (Nat.le_refl _) _).trans (b1.mono (by simp))
      clear b1
      go_wp2_with fail
      refine (HM.out _ _ (HK.out.kept (Kept.of_below h1))).mono ?_; rintro e w2 ⟨rfl, b2⟩
      go_wp2_with fail
      go_ret
      exact ⟨by rw [HR.out]; rfl, h1.trans (b2.mono h1.size)⟩
  · have d0 : decide (16 < deepT t) = true := decide_eq_true (by omega)
    rw [decide_eq_false hq] at HR
    clear hm6
    go_enter Tryz.func12, Tryz.ntmps12
    go_wp2_with fail
    refine (HD.out _ _ (HK.out.kept ((Kept.refl _ _).alloc _))).mono ?_; rintro e w1 ⟨rfl, b1⟩
    have k0 := keep_fresh b1 0 (v := .int .i64 t.kind) rfl
    have h1 : Below w.heap.size w w1 := ((Below.refl _ _).alloc (Nat.le_refl _) _).trans (b1.mono (by simp))
    clear b1
    go_wp2_with fail
    go_ret
    exact ⟨by rw [HR.out]; rfl, h1⟩
end Go.Proofs.YtahdlijkohmdfaaGreatDoor
/- The document's own text of a tree, of any tree that may be; its Print. -/
namespace Go.Proofs.YtahdlijkohmdfaaGreatDoor
open Go.RowKit

theorem text_level (t : Tr) (hW : Wid t) (hF : Fit t) (hM : mayB t = true) (ih : ∀ u ∈ t.kids, TextC u) : TextC t := by
  intro hl w A ca hA
  have hlen := hW.len
  obtain ⟨hsp, hso, _⟩ := (may_level t).1 hM
  by_cases h0 : t.kind = 0
  · have hn : 0 ≤ t.num ∧ t.num ≤ 9223372036854775807 := by
      cases hF with
      | @mk k n c r d s w ks hn _ =>
        obtain rfl : k = 0 := h0
        refine ⟨?_, hn⟩
        have : soundB (.mk 0 n c r d s w ks) = decide (0 ≤ n) := rfl
        exact of_decide_eq_true (this.symm.trans hso)
    have e : txT t = Lib.itoa t.num := by
      cases t with
      | mk k n c r d s w ks =>
        obtain rfl : k = 0 := h0
        rw [txT, if_pos rfl]
        obtain ⟨m, rfl⟩ := Int.eq_ofNat_of_zero_le hn.1
        exact (Lib.itoa_nonneg m).symm
    rw [e]
    exact rtext_num t hlen (by rw [h0]; rfl) (by unfold B64; omega) w A ca
  have n0 : (t.kind == 0) = false := by simpa using h0
  by_cases h1 : t.kind = 1
  · have e : txT t = placeText t.c1 t.r1 := by
      cases t with
      | mk k n c r d s w ks =>
        obtain rfl : k = 1 := h1
        rw [txT, if_neg (by decide), if_pos rfl]
        rfl
    rw [e]
    exact rtext_read t hlen n0 (by rw [h1]; rfl) w A ca
  have n1 : (t.kind == 1) = false := by simpa using h1
  by_cases h2 : t.kind = 2
  · have e : txT t = [35, 82, 69, 70] := by
      cases t with
      | mk k n c r d s w ks =>
        obtain rfl : k = 2 := h2
        rw [txT, if_neg (by decide), if_neg (by decide), if_neg (by decide), if_neg (by decide), if_neg (by decide), if_neg (by decide)]
    rw [e]
    exact rtext_bad t hlen (by rw [h2]; rfl) n0 n1 (by rw [h2]; rfl) (by rw [h2]; rfl) (by rw [h2]; rfl) (by rw [h2]; rfl) w A ca
  have n2 : (t.kind == 2) = false := by simpa using h2
  by_cases h3 : t.kind = 3
  · have hks : t.kids.length = 1 := by
      cases t with
      | mk k n c r d s w ks =>
        obtain rfl : k = 3 := h3
        have : soundB (.mk 3 n c r d s w ks) = exprsB ks 1 := rfl
        rw [this] at hso
        unfold exprsB at hso
        simp at hso
        exact hso.1
    obtain ⟨u, hu⟩ := one_elem hks
    have hi : t.kids[0]? = some u := by rw [hu]; rfl
    obtain ⟨g, o, rfl⟩ := hA.addr hi
    obtain ⟨_, _, A', c', h8, hkv⟩ := hA.kid hi
    have e : txT t = 45 :: txW 4 u (txT u) := by
      cases t with
      | mk k n c r d s w ks =>
        obtain rfl : k = 3 := h3
        obtain rfl : ks = [u] := hu
        rw [txT, if_neg (by decide), if_neg (by decide), if_neg (by decide), if_pos rfl, txL_cons]
        rfl
    have hl2 := hl
    rw [e] at hl2 ⊢
    have hu4 : (txT u).length ≤ (txW 4 u (txT u)).length := by unfold txW; split <;> simp <;> omega
    simp only [List.length_cons] at hl2
    have h := rtext_neg t hlen hks n0 n1 (by rw [h3]; rfl) (by rw [h3]; rfl) w g o ca (by simpa using h8) (s := txW 4 u (txT u)) (by omega) (fun w1 hb => rwithin_any u (ih u (by rw [hu]; simp)) (hW.kid hi).len (by omega) 4 w1 A' c' (hkv.kept (Kept.of_below hb)))
    rw [show (⟨#[45]⟩ : ByteArray) = ⟨([45] : List UInt8).toArray⟩ from rfl, cat_bytes] at h
    exact h
  have n3 : (t.kind == 3) = false := by simpa using h3
  by_cases h4 : t.kind = 4
  · have hks : t.kids.length = 2 := by
      cases t with
      | mk k n c r d s w ks =>
        obtain rfl : k = 4 := h4
        have : soundB (.mk 4 n c r d s w ks) = (decide (0 ≤ (lvl w : Int) - 1) && exprsB ks 2) := rfl
        rw [this] at hso
        unfold exprsB at hso
        simp at hso
        exact hso.2.1
    obtain ⟨u, v, hu⟩ := two_of hks
    have hi : t.kids[0]? = some u := by rw [hu]; rfl
    have hj : t.kids[1]? = some v := by rw [hu]; rfl
    obtain ⟨g, o, rfl⟩ := hA.addr hi
    obtain ⟨_, _, A', c', h8, hkv⟩ := hA.kid hi
    obtain ⟨_, _, B', d', k8, hkv2⟩ := hA.kid hj
    have e : txT t = txW (lvl t.word) u (txT u) ++ (t.word ++ txW (lvl t.word + 1) v (txT v)) := by
      cases t with
      | mk k n c r d s w ks =>
        obtain rfl : k = 4 := h4
        obtain rfl : ks = [u, v] := hu
        rw [txT, if_neg (by decide), if_neg (by decide), if_neg (by decide), if_neg (by decide), if_pos rfl, txL_cons, txL_cons]
        rfl
    have hl2 := hl
    rw [e] at hl2 ⊢
    have hua : (txT u).length ≤ (txW (lvl t.word) u (txT u)).length := by unfold txW; split <;> simp <;> omega
    have hva : (txT v).length ≤ (txW (lvl t.word + 1) v (txT v)).length := by unfold txW; split <;> simp <;> omega
    have hl3 := hl2
    simp only [List.length_append] at hl3
    have h := rtext_op t hlen hks n0 n1 (by rw [h4]; rfl) n3 (by rw [h4]; rfl) w g o ca (by simpa using h8) (by simpa using k8) (s1 := txW (lvl t.word) u (txT u)) (s2 := txW (lvl t.word + 1) v (txT v)) hl2 (fun w1 hb => rwithin_any u (ih u (by rw [hu]; simp)) (hW.kid hi).len (by omega) (lvl t.word) w1 A' c' (hkv.kept (Kept.of_below hb))) (fun w1 hb => rwithin_any v (ih v (by rw [hu]; simp)) (hW.kid hj).len (by omega) (lvl t.word + 1) w1 B' d' (hkv2.kept (Kept.of_below hb)))
    rw [cat_bytes, cat_bytes, List.append_assoc] at h
    exact h
  have n4 : (t.kind == 4) = false := by simpa using h4
  by_cases h5 : t.kind = 5
  · have hne : t.kids ≠ [] := by
      cases t with
      | mk k n c r d s w ks =>
        obtain rfl : k = 5 := h5
        rintro (rfl : ks = [])
        have : soundB (.mk 5 n c r d s w []) = calledB w [] := rfl
        rw [this] at hso
        unfold calledB exprsB at hso
        simp at hso
    have hne2 : txL t.kids ≠ [] := by rw [txL_map]; simpa using hne
    have e : txT t = t.word ++ 40 :: (txB (txL t.kids) ++ [41]) := by
      have e2 : 40 :: (txB (txL t.kids) ++ [41]) = 40 :: txJ (txL t.kids) := by rw [← txH_all _ hne2, txH_txB _ hne2]; rfl
      rw [e2]
      cases t with
      | mk k n c r d s w ks =>
        obtain rfl : k = 5 := h5
        rw [txT, if_neg (by decide), if_neg (by decide), if_neg (by decide), if_neg (by decide), if_neg (by decide), if_pos rfl]
        rfl
    have hl2 := hl
    rw [e] at hl2 ⊢
    simp only [List.length_append, List.length_cons, List.length_nil] at hl2
    have h := rtext_call t hlen n0 n1 (by rw [h5]; rfl) n3 n4 (by rw [h5]; rfl) w A ca hA (by omega) ih
    have e3 : accT t t.kids.length ++ (⟨#[41]⟩ : ByteArray) = ⟨(t.word ++ 40 :: (txB (txL t.kids) ++ [41])).toArray⟩ := by
      unfold accT
      rw [List.take_length, show (⟨#[41]⟩ : ByteArray) = ⟨([41] : List UInt8).toArray⟩ from rfl, cat_bytes]
      simp
    rw [e3] at h
    exact h
  have n5 : (t.kind == 5) = false := by simpa using h5
  by_cases h6 : t.kind = 6
  · have e : txT t = placeText t.c1 t.r1 ++ 58 :: placeText t.c2 t.r2 := by
      cases t with
      | mk k n c r d s w ks =>
        obtain rfl : k = 6 := h6
        rw [txT, if_neg (by decide), if_neg (by decide), if_pos rfl]
        rfl
    rw [e]
    have h := rtext_span t hlen n0 n1 (by rw [h6]; rfl) w A ca
    rw [show (⟨#[58]⟩ : ByteArray) = ⟨([58] : List UInt8).toArray⟩ from rfl, cat_bytes, cat_bytes, List.append_assoc] at h
    exact h
  · exfalso
    cases t with
    | mk k n c r d s w ks =>
      have : soundB (.mk k n c r d s w ks) = (if k = 0 then decide (0 ≤ n) else if k = 1 then rightB c r && (c == d && r == s) else if k = 2 then true
  else if k = 3 then exprsB ks 1 else if k = 4 then decide (0 ≤ (lvl w : Int) - 1) && exprsB ks 2 else if k = 5 then calledB w ks
  else if k = 6 then wholeB c r d s else false) := rfl
      change ¬ k = 0 at h0
      change ¬ k = 1 at h1
      change ¬ k = 2 at h2
      change ¬ k = 3 at h3
      change ¬ k = 4 at h4
      change ¬ k = 5 at h5
      change ¬ k = 6 at h6
      rw [this, if_neg h0, if_neg h1, if_neg h2, if_neg h3, if_neg h4, if_neg h5, if_neg h6] at hso
      cases hso
theorem text_any : ∀ {t : Tr}, Wid t → Fit t → mayB t = true → TextC t := by
  intro t hW
  induction hW with
  | @mk k n c r d s w ks hl hk ih =>
    intro hF hM
    refine text_level _ (.mk hl hk) hF hM fun u hu => ih u hu ?_ ?_
    · cases hF with
      | mk _ h => exact h u hu
    · exact ((may_level _).1 hM).2.2 u hu
theorem right_same (t : Tr) : rightT t = rightP t := by
  rw [Bool.eq_iff_iff, right_iff]
  unfold rightT
  simp only [Bool.and_eq_true, decide_eq_true_eq, bne_iff_ne]
  exact ⟨fun h => ⟨h.2.1, h.1, h.2.2⟩, fun h => ⟨h.2.1, h.1, h.2.2⟩⟩
set_option maxHeartbeats 1000000 in
set_option maxRecDepth 10000 in
theorem rprint_no (t : Tr) (ht : Wid t) (hd : deepT t ≤ 1000000000) (hr : rightP t = false) (w : World) (A : Option Addr) (ca : Nat) (hA : KV w (fun _ => True) t A) :
    Calls Tryz.prog 13 #[tv t A ca] w fun e w' => e = .returned (.string ⟨#[]⟩) ∧ Below w.heap.size w w' := by
  have h0 : ∀ ob, Below w.heap.size w (w.alloc ob) := fun ob => (Below.refl _ _).alloc (Nat.le_refl _) ob
  have H := Lib.hid (fun ob => rRight_any t hd ht (w.alloc ob) _ A ca (hA.kept (Kept.of_below (h0 ob))))
  rw [right_same, hr] at H
  have hlen := ht.len
  unfold maxLen at hlen
  unfold tv at *
  clear hA hr ht h0 hd
  go_enter Tryz.func13, Tryz.ntmps13
  go_wp2_with fail
  refine (H.out _).mono ?_; rintro e w1 ⟨rfl, b1⟩
  have h1 : Below w.heap.size w w1 := ((Below.refl _ _).alloc (Nat.le_refl _) _).trans (b1.mono (by simp))
  clear b1
  go_wp2_with fail
  go_ret
  exact ⟨rfl, h1⟩
set_option maxHeartbeats 1000000 in
set_option maxRecDepth 10000 in
theorem rprint_yes (t : Tr) (ht : Wid t) (hf : Fit t) (hd : deepT t ≤ 1000000000) (hr : rightP t = true) (hl : (txT t).length ≤ 140737488355328) (w : World) (A : Option Addr) (ca : Nat) (hA : KV w (fun _ => True) t A) :
    Calls Tryz.prog 13 #[tv t A ca] w fun e w' => e = .returned (.string ⟨(txT t).toArray⟩) ∧ Below w.heap.size w w' := by
  have h0 : ∀ ob, Below w.heap.size w (w.alloc ob) := fun ob => (Below.refl _ _).alloc (Nat.le_refl _) ob
  have H := Lib.hid (fun ob => rRight_any t hd ht (w.alloc ob) _ A ca (hA.kept (Kept.of_below (h0 ob))))
  have HT := Lib.hid (fun w1 (hb : Below w.heap.size w w1) => text_any ht hf ((right_iff t).1 hr).2.2 hl w1 A ca (hA.kept (Kept.of_below hb)))
  rw [right_same, hr] at H
  have hlen := ht.len
  unfold maxLen at hlen
  unfold tv at *
  clear hA hr ht h0 hd hf hl
  go_enter Tryz.func13, Tryz.ntmps13
  go_wp2_with fail
  refine (H.out _).mono ?_; rintro e w1 ⟨rfl, b1⟩
  have k10 := keep_fresh b1 0 (v := .int .i64 t.kind) rfl
  have k11 := keep_fresh b1 1 (v := .int .i64 t.num) rfl
  have k12 := keep_fresh b1 2 (v := .int .i64 t.c1) rfl
  have k13 := keep_fresh b1 3 (v := .int .i64 t.r1) rfl
  have k14 := keep_fresh b1 4 (v := .int .i64 t.c2) rfl
  have k15 := keep_fresh b1 5 (v := .int .i64 t.r2) rfl
  have k16 := keep_fresh b1 6 (v := .string ⟨t.word.toArray⟩) rfl
  have k17 := keep_fresh b1 7 (v := .slice A t.kids.length ca) rfl
  have h1 : Below w.heap.size w w1 := ((Below.refl _ _).alloc (Nat.le_refl _) _).trans (b1.mono (by simp))
  clear b1
  go_wp2_with fail
  refine (HT.out _ h1).mono ?_; rintro e w2 ⟨rfl, b2⟩
  have h2 := h1.trans (b2.mono h1.size)
  clear b2 h1
  go_wp2_with fail
  go_ret
  exact ⟨rfl, h2⟩
theorem rprint_any (t : Tr) (ht : Wid t) (hf : Fit t) (hd : deepT t ≤ 1000000000) (hl : (txT t).length ≤ 140737488355328) (w : World) (A : Option Addr) (ca : Nat) (hA : KV w (fun _ => True) t A) :
    Calls Tryz.prog 13 #[tv t A ca] w fun e w' => e = .returned (.string ⟨(printP t).toArray⟩) ∧ Below w.heap.size w w' := by
  unfold printP
  cases hr : rightP t with
  | true => exact rprint_yes t ht hf hd hr hl w A ca hA
  | false => exact rprint_no t ht hd hr w A ca hA
end Go.Proofs.YtahdlijkohmdfaaGreatDoor
/- SyntaxTells: what is called, as the statement's walk wants it. -/
namespace Go.Proofs.YtahdlijkohmdfaaGreatDoor
open Go.RowKit

theorem neq_self' {α : Type} [BEq α] [LawfulBEq α] (x : α) : (x != x) = false := by unfold bne; rw [beq_self_eq_true]; rfl
theorem tprint (t : Tr) (ht : Wid t) (hf : Fit t) (hs : szT t 400 ≤ 400) (w : World) (A : Option Addr) (ca : Nat) (hA : KV w (fun _ => True) t A) (hE : EnvI w) (hS : Strs w.heap.size w.heap.size w) :
    Calls Tryz.prog 9 #[tv t A ca] w fun e w' => e = .returned (.string ⟨(printP t).toArray⟩) ∧ Below w.heap.size w w' := by
  unfold printP
  cases hr : rightP t with
  | true => exact sprint_yes t ht hf hr (tx_short hf ((right_iff t).1 hr).2.2 hs) w A ca hA hE hS
  | false => exact sprint_no t ht hr w _ A ca hA w.heap.size (Nat.le_refl _) hS
theorem deep_big {t : Tr} (h : fitsB t = true) : deepT t ≤ 1000000000 := Nat.le_trans (fits_deep h) (by decide)
theorem trprint (t : Tr) (ht : Wid t) (hf : Fit t) (hs : fitsB t = true) (w : World) (A : Option Addr) (ca : Nat) (hA : KV w (fun _ => True) t A) :
    Calls Tryz.prog 13 #[tv t A ca] w fun e w' => e = .returned (.string ⟨(printP t).toArray⟩) ∧ Below w.heap.size w w' := by
  unfold printP
  cases hr : rightP t with
  | true => exact rprint_yes t ht hf (deep_big hs) hr (tx_short hf ((right_iff t).1 hr).2.2 (fits_iff.1 hs).1) w A ca hA
  | false => exact rprint_no t ht (deep_big hs) hr w A ca hA
theorem rright_fit (t : Tr) (ht : Wid t) (hs : fitsB t = true) (w : World) (A : Option Addr) (ca : Nat) (hA : KV w (fun _ => True) t A) :
    Calls Tryz.prog 12 #[tv t A ca] w fun e w' => e = .returned (.bool (rightP t)) ∧ Below w.heap.size w w' := by
  rw [← right_same]
  exact rRight_any t (deep_big hs) ht w _ A ca hA
noncomputable def sameB (t u : Tr) : Bool := @decide (t = u) (Classical.propDecidable _)
theorem same_of {t u : Tr} {b : Bool} (h : b = true ↔ t = u) : b = sameB t u := by
  unfold sameB
  cases b with
  | true => exact (@decide_eq_true _ (Classical.propDecidable _) (h.1 rfl)).symm
  | false => exact (@decide_eq_false _ (Classical.propDecidable _) (fun e => by cases h.2 e)).symm
theorem psame_bool (t u : Tr) (ht : Wid t) (hu : Wid u) (w : World) (A B : Option Addr) (ca cb : Nat) (hA : KV w (fun _ => True) t A) (hB : KV w (fun _ => True) u B) :
    Calls Tryz.prog 16 #[tv t A ca, tv u B cb] w fun e w' => e = .returned (.bool (sameB t u)) ∧ Below w.heap.size w w' :=
  (psame_any t u ht hu w _ _ A B ca cb hA hB).mono fun e w' ⟨⟨b, he, hb⟩, h⟩ => ⟨by rw [he, same_of hb], h⟩
theorem rsame_bool (t u : Tr) (hs : fitsB t = true) (ht : Wid t) (hu : Wid u) (w : World) (A B : Option Addr) (ca cb : Nat) (hA : KV w (fun _ => True) t A) (hB : KV w (fun _ => True) u B) :
    Calls Tryz.prog 8 #[tv t A ca, tv u B cb] w fun e w' => e = .returned (.bool (sameB t u)) ∧ Below w.heap.size w w' :=
  (rsame_any 40 t u (fits_deep hs) ht hu w _ _ A B ca cb hA hB).mono fun e w' ⟨⟨b, he, hb⟩, h⟩ => ⟨by rw [he, same_of hb], h⟩
theorem rsame_self (t : Tr) (hs : fitsB t = true) (ht : Wid t) (w : World) (A B : Option Addr) (ca cb : Nat) (hA : KV w (fun _ => True) t A) (hB : KV w (fun _ => True) t B) :
    Calls Tryz.prog 8 #[.agg #[.int .i64 t.kind, .int .i64 t.num, .int .i64 t.c1, .int .i64 t.r1, .int .i64 t.c2, .int .i64 t.r2, .string ⟨t.word.toArray⟩, .slice A t.kids.length ca], .agg #[.int .i64 t.kind, .int .i64 t.num, .int .i64 t.c1, .int .i64 t.r1, .int .i64 t.c2, .int .i64 t.r2, .string ⟨t.word.toArray⟩, .slice B t.kids.length cb]] w fun e w' => e = .returned (.bool true) ∧ Below w.heap.size w w' :=
  (rsame_any 40 t t (fits_deep hs) ht ht w _ _ A B ca cb hA hB).mono fun e w' ⟨⟨b, he, hb⟩, h⟩ => ⟨by rw [he, hb.2 rfl], h⟩
theorem print_len {t : Tr} (hf : Fit t) (hs : szT t 400 ≤ 400) : (printP t).length ≤ 140737488355328 := by
  unfold printP
  cases hr : rightP t with
  | true => exact tx_short hf ((right_iff t).1 hr).2.2 hs
  | false => exact Nat.zero_le _
theorem print_size {t : Tr} (hf : Fit t) (hs : szT t 400 ≤ 400) : (⟨(printP t).toArray⟩ : ByteArray).size ≤ 140737488355328 := by
  rw [← len_of]; exact (by simpa using print_len hf hs)
theorem print_back {t : Tr} (hf : Fit t) (hr : rightP t = true) (hs : ¬ (200 : Int) < ((⟨(printP t).toArray⟩ : ByteArray).size : Int)) : parseL (⟨(printP t).toArray⟩ : ByteArray).data.toList = .good t := by
  obtain ⟨h6, h16, hm⟩ := (right_iff t).1 hr
  obtain ⟨s, ts, hp⟩ := (may_ex hf hm).1 h6
  have hs2 : s = txT t := pr_tx hp
  subst hs2
  have e : (⟨(printP t).toArray⟩ : ByteArray).data.toList = txT t := by unfold printP; rw [if_pos hr]
  have hl : (txT t).length ≤ 200 := by
    rw [← len_of, e] at hs; omega
  rw [e]
  obtain ⟨h0, _, ht⟩ := pr_back hp hl
  rw [parse_of h0 (ht _), if_neg (by omega)]
/-- two trees as parameters: what later worlds keep -/
theorem stays_two (g : Nat) (a b : Tr) (A B : Option Addr) (ca cb : Nat) : Stays (fun w => (Here w g a A ca ∧ KV w (fun _ => True) a A) ∧ (Here w (g + 1) b B cb ∧ KV w (fun _ => True) b B)) :=
  ((stays_here g a A ca).and (stays_kv a A)).and ((stays_here (g + 1) b B cb).and (stays_kv b B))
theorem two_new (w : World) (a b : Tr) (A B : Option Addr) (ca cb : Nat) (hA : KV w (fun _ => True) a A) (hB : KV w (fun _ => True) b B) :
    (Here ((w.alloc (valT a A ca)).alloc (valT b B cb)) w.heap.size a A ca ∧ KV ((w.alloc (valT a A ca)).alloc (valT b B cb)) (fun _ => True) a A) ∧ (Here ((w.alloc (valT a A ca)).alloc (valT b B cb)) (w.heap.size + 1) b B cb ∧ KV ((w.alloc (valT a A ca)).alloc (valT b B cb)) (fun _ => True) b B) := by
  refine ⟨⟨(stays_here w.heap.size a A ca).al (Here.new w a A ca) _, (stays_kv a A).al ((stays_kv a A).al hA _) _⟩, ?_, (stays_kv b B).al ((stays_kv b B).al hB _) _⟩
  have := Here.new (w.alloc (valT a A ca)) b B cb
  rwa [show (w.alloc (valT a A ca)).heap.size = w.heap.size + 1 from by simp] at this
end Go.Proofs.YtahdlijkohmdfaaGreatDoor
