/- The walk of the statement on numbers' texts. -/
import Derived.Test.YtcloiebamamfbaaDoorAlive
import Derived.Test.YtcloiebamamfbaaDoorNumD
import Derived.Test.YtcloiebamamfbaaDoorNumE
namespace Go.Proofs.YtcloiebamamfbaaDoor
open Go.RowKit

set_option maxHeartbeats 400000 in
theorem rparse_empty (w : World) :
    Calls Tryd.prog 19 #[.string ⟨#[]⟩] w fun e w' => e = .returned (.tuple #[.int .i64 0, .bool false]) ∧ w = w' := by
  go_enter Tryd.func19, Tryd.ntmps19
  go_wp2_with fail
  go_ret2
  exact ⟨rfl, rfl⟩
theorem rparse_any (s : ByteArray) (hs : s.size ≤ 300) (w : World) :
    Calls Tryd.prog 19 #[.string s] w fun e w' => e = .returned (.tuple #[.int .i64 (pV s.data.toList), .bool (pB s.data.toList)]) ∧ w = w' := by
  by_cases h0 : 0 < s.size
  · exact rparse_core s ⟨(rest s.data.toList).toArray⟩ _ _ hs h0 rfl (by simp) rfl w
  · have he : s = ⟨#[]⟩ := bytes_eq (List.eq_nil_of_length_eq_zero (by rw [size_of]; omega))
    subst he
    exact rparse_empty w
theorem parse_text (a : Int) (ha : B64 a) (w : World) (hE : Env w) :
    Calls Tryd.prog 17 #[.string ⟨(Lib.itoa a).toArray⟩] w fun e w' => e = .returned (.tuple #[.int .i64 a, .bool true]) ∧ Below w.heap.size w w' := by
  have hl : (Lib.itoa a).length ≤ 40 := by
    have := digits_len a.natAbs (by unfold B64 at ha; omega)
    have e : a.toNat ≤ a.natAbs := by omega
    have := digits_len a.toNat (by unfold B64 at ha; omega)
    unfold Lib.itoa
    split
    · simp; omega
    · omega
  have hp := p_some (l := Lib.itoa a) ha rfl
  refine (parse_any ⟨(Lib.itoa a).toArray⟩ (by show (Lib.itoa a).toArray.size ≤ _; rw [List.size_toArray]; omega) w hE).mono fun _ _ ⟨he, hb⟩ => ⟨he.trans (ret_pair ?_ ?_), hb⟩
  · exact hp.1
  · exact hp.2

set_option maxHeartbeats 1000000 in
theorem texts_any (a : Int) (s : ByteArray) (ha : B64 a) (hs : s.size ≤ 9223372036854775807) (w : World) (hE : Env w) :
    Calls Tryd.prog 4 #[.int .i64 a, .string s] w fun e w' => e = .returned (.bool true) ∧ Below w.heap.size w w' := by
  by_cases hlen : 300 < s.size
  · have HE := Lib.hid hE
    clear hE ha
    go_enter Tryd.func4, Tryd.ntmps4
    go_wp2_with fail
    refine (alive_any _ HE.out).mono ?_; rintro e w1 ⟨rfl, h1⟩
    go_wp2_with fail
    go_ret
    exact ⟨rfl, h1⟩
  · have HE := Lib.hid hE
    have HT := Lib.hid (text_any a ha)
    have HP := Lib.hid (parse_text a ha)
    have HQ := Lib.hid (parse_any s (by omega))
    have HR := Lib.hid (rparse_any s (by omega))
    have HU := Lib.hid (rtext_any a ha)
    clear hE ha
    go_enter Tryd.func4, Tryd.ntmps4
    go_wp2_with fail
    refine (HT.out _ HE.out).mono ?_; rintro e w1 ⟨rfl, b1⟩
    have HE1 := Lib.hid (HE.out.below b1)
    go_wp2_with fail
    refine (HP.out _ HE1.out).mono ?_; rintro e w2 ⟨rfl, h2⟩
    have b2 := b1.trans (h2.mono b1.size)
    clear b1 h2
    have HE2 := Lib.hid (HE.out.below b2)
    go_wp2_with fail
    refine (HQ.out _ HE2.out).mono ?_; rintro e w3 ⟨rfl, h3⟩
    have b3 := b2.trans (h3.mono b2.size)
    clear b2 h3
    have HE3 := Lib.hid (HE.out.below b3)
    go_wp2_with fail
    refine (HR.out _).mono ?_; rintro e w4 ⟨rfl, rfl⟩
    go_wp2_with fail
    refine (alive_any _ HE3.out).mono ?_; rintro e w4 ⟨rfl, h4⟩
    have b4 := b3.trans (h4.mono b3.size)
    clear b3 h4
    have HE4 := Lib.hid (HE.out.below b4)
    go_wp2_with fail
    refine (HT.out _ HE4.out).mono ?_; rintro e w5 ⟨rfl, h5⟩
    have b5 := b4.trans (h5.mono b4.size)
    clear b4 h5
    go_wp2_with fail
    refine (HU.out _).mono ?_; rintro e w6 ⟨rfl, h6⟩
    have b6 := b5.trans (h6.mono b5.size)
    clear b5 h6
    go_wp2_with fail
    go_ret
    exact ⟨rfl, b6⟩
end Go.Proofs.YtcloiebamamfbaaDoor
