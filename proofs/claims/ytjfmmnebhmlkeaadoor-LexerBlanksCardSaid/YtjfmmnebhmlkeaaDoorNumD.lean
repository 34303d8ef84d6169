/- The contracts of the document's own texts of numbers. -/
import Derived.Test.YtjfmmnebhmlkeaaDoorNumS
import Derived.Test.YtjfmmnebhmlkeaaDoorTx
import Derived.Lib.ConvBytes
namespace Go.Proofs.YtjfmmnebhmlkeaaDoor
open Go.RowKit

/-- the byte of a figure -/
def dig (d : Nat) : UInt8 := UInt8.ofNat (48 + d)
/-- the last figure, as a text of one byte -/
theorem conv_one (W : World) (d : Nat) (hd : d < 10) (b : Nat) (hb : W.heap.size = b) :
    Sem.run Tryd.prog (convert 71 9 (.slice (some ⟨b, 0, none⟩) 1 1)) (W.alloc (.cells #[.int .u8 (48 + (d : Int))] 5)) =
      .ok (.string ⟨#[dig d]⟩) (W.alloc (.cells #[.int .u8 (48 + (d : Int))] 5)) := by
  refine run_convert_bytes_back (W.alloc (.cells #[.int .u8 (48 + (d : Int))] 5)) 71 9 5 ⟨b, 0, none⟩ 1 [dig d] Tryd.underlying71 Tryd.underlying5 Tryd.underlying9 ?_
  intro j hj
  have hj0 : j = 0 := by simpa using hj
  subst hj0
  subst hb
  have e : (dig d).toNat = 48 + d := by unfold dig; rw [UInt8.toNat_ofNat']; omega
  simp only [List.getElem_cons_zero, e]
  have h := cell_of_row (W.alloc (.cells #[.int .u8 (48 + (d : Int))] 5)) W.heap.size 0 #[.int .u8 (48 + (d : Int))] 5 (0, 0) (heap_alloc_new W _)
  rw [show ((48 + d : Nat) : Int) = 48 + (d : Int) from by omega]
  exact h

theorem digits_len (u : Nat) (h : u < 18446744073709551616) : (Lib.decDigits u).length ≤ 30 := by
  rw [Lib.decDigits_length]
  by_cases h1 : u ≤ 9223372036854775808
  · have := nDigits_le u h1; omega
  · have : Lib.nDigits u = Lib.nDigits (u / 10) + 1 := Lib.nDigits_big (by omega)
    have := nDigits_le (u / 10) (by omega)
    omega
set_option maxHeartbeats 400000 in
set_option maxRecDepth 10000 in
theorem figures_any (u : Nat) : u < 18446744073709551616 → ∀ w : World,
    Calls Tryd.prog 50 #[.int .u64 u] w fun e w' => e = .returned (.string ⟨(Lib.decDigits u).toArray⟩) ∧ Below w.heap.size w w' := by
  induction u using Nat.strongRecOn with
  | _ u ih =>
    intro hu w
    have hc := conv_one w (u % 10) (by omega) w.heap.size rfl
    rw [show ((u % 10 : Nat) : Int) = (u : Int) % 10 from by omega] at hc
    by_cases h : u < 10
    · have HR : Hid (Lib.decDigits u = [dig u]) := Lib.hid (Lib.decDigits_one h)
      have hm : u % 10 = u := by omega
      rw [hm] at hc
      clear hm ih
      go_enter Tryd.func50, Tryd.ntmps50
      go_wp2_with fail
      go_ret
      exact ⟨ret_str (by rw [HR.out]), (Below.refl _ _).alloc (Nat.le_refl _) _⟩
    · have IH := Lib.hid (ih (u / 10) (by omega) (by omega))
      have HR : Hid (Lib.decDigits u = Lib.decDigits (u / 10) ++ [dig (u % 10)]) := Lib.hid (by rw [Lib.decDigits, dif_neg h]; rfl)
      have hlen := digits_len (u / 10) (by omega)
      rw [show ((u / 10 : Nat) : Int) = (u : Int) / 10 from by omega] at IH
      clear ih
      go_enter Tryd.func50, Tryd.ntmps50
      go_wp2_with fail
      refine (IH.out _).mono ?_
      rintro e w1 ⟨rfl, h1⟩
      go_wp2_with fail
      go_ret
      exact ⟨ret_str (by rw [HR.out, ByteArray.mk_append_mk]), ((Below.refl _ _).alloc (Nat.le_refl _) _).trans (h1.mono (by simp))⟩
set_option maxHeartbeats 400000 in
set_option maxRecDepth 10000 in
theorem rtext_any (a : Int) (ha : B64 a) (w : World) :
    Calls Tryd.prog 43 #[.int .i64 a] w fun e w' => e = .returned (.string ⟨(Lib.itoa a).toArray⟩) ∧ Below w.heap.size w w' := by
  have hn : absI a = (a.natAbs : Int) := by unfold absI; split <;> omega
  have HS := Lib.hid (size_any a ha)
  have HF := Lib.hid (figures_any a.natAbs (by unfold B64 at ha; omega))
  have hlen := digits_len a.natAbs (by unfold B64 at ha; omega)
  rw [hn] at HS
  clear hn ha
  obtain ⟨D, hD⟩ : ∃ D, D = Lib.decDigits a.natAbs := ⟨_, rfl⟩
  rw [← hD] at HF hlen
  by_cases h : a < 0
  · have HR : Hid (Lib.itoa a = 45 :: D) := Lib.hid (by unfold Lib.itoa; rw [if_pos h, hD])
    clear hD
    go_enter Tryd.func43, Tryd.ntmps43
    go_wp2_with fail
    refine (HS.out _).mono ?_; rintro e w1 ⟨rfl, rfl⟩
    go_wp2_with fail
    refine (HF.out _).mono ?_; rintro e w1 ⟨rfl, h1⟩
    go_wp2_with fail
    go_ret
    exact ⟨ret_str (by rw [HR.out, ByteArray.mk_append_mk]; simp), h1⟩
  · have HR : Hid (Lib.itoa a = D) := Lib.hid (by unfold Lib.itoa; rw [if_neg h, hD]; congr 1; omega)
    clear hD
    go_enter Tryd.func43, Tryd.ntmps43
    go_wp2_with fail
    refine (HS.out _).mono ?_; rintro e w1 ⟨rfl, rfl⟩
    go_wp2_with fail
    refine (HF.out _).mono ?_; rintro e w1 ⟨rfl, h1⟩
    go_wp2_with fail
    go_ret
    exact ⟨ret_str (by rw [HR.out]), h1⟩
end Go.Proofs.YtjfmmnebhmlkeaaDoor
