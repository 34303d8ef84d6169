/- The document's own tokens: how many bytes the mark at a place has. -/
import Derived.Test.YtjfmmnebhmlkeaaDoorLxA
import Derived.Test.YtjfmmnebhmlkeaaDoorRefD
namespace Go.Proofs.YtjfmmnebhmlkeaaDoor
open Go.RowKit

/-- how many bytes the mark has that begins with c, with d behind -/
def markC (c d : UInt8) : Int :=
  if c = 60 ∧ (d = 61 ∨ d = 62) ∨ c = 62 ∧ d = 61 then 2
  else if c = 43 ∨ c = 45 ∨ c = 42 ∨ c = 47 ∨ c = 40 ∨ c = 41 ∨ c = 44 ∨ c = 58 ∨ c = 60 ∨ c = 61 ∨ c = 62 then 1 else 0
/-- .. at a place of a text -/
def markN (l : List UInt8) (p : Nat) : Int := markC (l.getD p 0) (l.getD (p + 1) 0)
theorem byte_ne {c k : UInt8} (h : ¬ c = k) : ((c.toNat : Int) == (k.toNat : Int)) = false := by
  rw [beq_eq_false_iff_ne]
  intro e
  exact h (UInt8.toNat_inj.1 (by omega))
theorem byte_eq {c k : UInt8} (h : c = k) : ((c.toNat : Int) == (k.toNat : Int)) = true := by rw [h]; simp
theorem byte_past (s : ByteArray) (i : Nat) (h : ¬ i < s.size) : s.data.toList.getD i 0 = 0 := by
  rw [List.getD_eq_getElem?_getD, List.getElem?_eq_none (by rw [len_of]; omega)]; rfl

set_option maxHeartbeats 2000000 in
theorem lmark_two (s : ByteArray) (hs : s.size ≤ 9223372036854775807) (p : Nat) (h : p < s.size) (hp : p + 1 < s.size) (w : World) :
    Calls Tryd.prog 25 #[.string s, .int .i64 (p : Int)] w fun e w' => e = .returned (.int .i64 (markN s.data.toList p)) ∧ w = w' := by
  have g0 := byte_getD s p h
  have g1 := byte_getD s (p + 1) hp
  by_cases q60 : (s[p]'h) = 60
  · by_cases d61 : (s[p + 1]'hp) = 61
    · have HR := Lib.hid (show markN s.data.toList p = 2 from by unfold markN; rw [g0, g1]; simp [markC, q60, d61])
      have t60 : (((s[p]'h).toNat : Int) == 60) = true := byte_eq (k := 60) q60
      have u61 : (((s[p + 1]'hp).toNat : Int) == 61) = true := byte_eq (k := 61) d61
      clear g0 g1 q60 d61
      go_enter Tryd.func25, Tryd.ntmps25
      go_wp2_with fail
      go_ret
      exact ⟨ret_int HR.out.symm, rfl⟩
    by_cases d62 : (s[p + 1]'hp) = 62
    · have HR := Lib.hid (show markN s.data.toList p = 2 from by unfold markN; rw [g0, g1]; simp [markC, q60, d62])
      have t60 : (((s[p]'h).toNat : Int) == 60) = true := byte_eq (k := 60) q60
      have u61 : (((s[p + 1]'hp).toNat : Int) == 61) = false := byte_ne (k := 61) d61
      have u62 : (((s[p + 1]'hp).toNat : Int) == 62) = true := byte_eq (k := 62) d62
      clear g0 g1 q60 d61 d62
      go_enter Tryd.func25, Tryd.ntmps25
      go_wp2_with fail
      go_ret
      exact ⟨ret_int HR.out.symm, rfl⟩
    have HR := Lib.hid (show markN s.data.toList p = 1 from by unfold markN; rw [g0, g1]; simp [markC, q60, d61, d62])
    have t60 : (((s[p]'h).toNat : Int) == 60) = true := byte_eq (k := 60) q60
    have t43 : (((s[p]'h).toNat : Int) == 43) = false := byte_ne (k := 43) (by rw [q60]; decide)
    have t45 : (((s[p]'h).toNat : Int) == 45) = false := byte_ne (k := 45) (by rw [q60]; decide)
    have t42 : (((s[p]'h).toNat : Int) == 42) = false := byte_ne (k := 42) (by rw [q60]; decide)
    have t47 : (((s[p]'h).toNat : Int) == 47) = false := byte_ne (k := 47) (by rw [q60]; decide)
    have t40 : (((s[p]'h).toNat : Int) == 40) = false := byte_ne (k := 40) (by rw [q60]; decide)
    have t41 : (((s[p]'h).toNat : Int) == 41) = false := byte_ne (k := 41) (by rw [q60]; decide)
    have t44 : (((s[p]'h).toNat : Int) == 44) = false := byte_ne (k := 44) (by rw [q60]; decide)
    have t58 : (((s[p]'h).toNat : Int) == 58) = false := byte_ne (k := 58) (by rw [q60]; decide)
    have t62 : (((s[p]'h).toNat : Int) == 62) = false := byte_ne (k := 62) (by rw [q60]; decide)
    have u61 : (((s[p + 1]'hp).toNat : Int) == 61) = false := byte_ne (k := 61) d61
    have u62 : (((s[p + 1]'hp).toNat : Int) == 62) = false := byte_ne (k := 62) d62
    clear g0 g1 q60 d61 d62
    go_enter Tryd.func25, Tryd.ntmps25
    go_wp2_with fail
    go_ret
    exact ⟨ret_int HR.out.symm, rfl⟩
  by_cases q62 : (s[p]'h) = 62
  · by_cases d61 : (s[p + 1]'hp) = 61
    · have HR := Lib.hid (show markN s.data.toList p = 2 from by unfold markN; rw [g0, g1]; simp [markC, q62, d61])
      have t60 : (((s[p]'h).toNat : Int) == 60) = false := byte_ne (k := 60) q60
      have t62 : (((s[p]'h).toNat : Int) == 62) = true := byte_eq (k := 62) q62
      have u61 : (((s[p + 1]'hp).toNat : Int) == 61) = true := byte_eq (k := 61) d61
      clear g0 g1 q60 q62 d61
      go_enter Tryd.func25, Tryd.ntmps25
      go_wp2_with fail
      go_ret
      exact ⟨ret_int HR.out.symm, rfl⟩
    have HR := Lib.hid (show markN s.data.toList p = 1 from by unfold markN; rw [g0, g1]; simp [markC, q62, d61])
    have t43 : (((s[p]'h).toNat : Int) == 43) = false := byte_ne (k := 43) (by rw [q62]; decide)
    have t45 : (((s[p]'h).toNat : Int) == 45) = false := byte_ne (k := 45) (by rw [q62]; decide)
    have t42 : (((s[p]'h).toNat : Int) == 42) = false := byte_ne (k := 42) (by rw [q62]; decide)
    have t47 : (((s[p]'h).toNat : Int) == 47) = false := byte_ne (k := 47) (by rw [q62]; decide)
    have t40 : (((s[p]'h).toNat : Int) == 40) = false := byte_ne (k := 40) (by rw [q62]; decide)
    have t41 : (((s[p]'h).toNat : Int) == 41) = false := byte_ne (k := 41) (by rw [q62]; decide)
    have t44 : (((s[p]'h).toNat : Int) == 44) = false := byte_ne (k := 44) (by rw [q62]; decide)
    have t58 : (((s[p]'h).toNat : Int) == 58) = false := byte_ne (k := 58) (by rw [q62]; decide)
    have t60 : (((s[p]'h).toNat : Int) == 60) = false := byte_ne (k := 60) q60
    have t61 : (((s[p]'h).toNat : Int) == 61) = false := byte_ne (k := 61) (by rw [q62]; decide)
    have t62 : (((s[p]'h).toNat : Int) == 62) = true := byte_eq (k := 62) q62
    have u61 : (((s[p + 1]'hp).toNat : Int) == 61) = false := byte_ne (k := 61) d61
    clear g0 g1 q60 q62 d61
    go_enter Tryd.func25, Tryd.ntmps25
    go_wp2_with fail
    go_ret
    exact ⟨ret_int HR.out.symm, rfl⟩
  by_cases q43 : (s[p]'h) = 43
  · have HR := Lib.hid (show markN s.data.toList p = 1 from by unfold markN; rw [g0, g1]; simp [markC, q43])
    have t60 : (((s[p]'h).toNat : Int) == 60) = false := byte_ne (k := 60) q60
    have t62 : (((s[p]'h).toNat : Int) == 62) = false := byte_ne (k := 62) q62
    have t43 : (((s[p]'h).toNat : Int) == 43) = true := byte_eq (k := 43) q43
    clear g0 g1 q60 q62 q43
    go_enter Tryd.func25, Tryd.ntmps25
    go_wp2_with fail
    go_ret
    exact ⟨ret_int HR.out.symm, rfl⟩
  by_cases q45 : (s[p]'h) = 45
  · have HR := Lib.hid (show markN s.data.toList p = 1 from by unfold markN; rw [g0, g1]; simp [markC, q45])
    have t60 : (((s[p]'h).toNat : Int) == 60) = false := byte_ne (k := 60) q60
    have t62 : (((s[p]'h).toNat : Int) == 62) = false := byte_ne (k := 62) q62
    have t43 : (((s[p]'h).toNat : Int) == 43) = false := byte_ne (k := 43) q43
    have t45 : (((s[p]'h).toNat : Int) == 45) = true := byte_eq (k := 45) q45
    clear g0 g1 q60 q62 q43 q45
    go_enter Tryd.func25, Tryd.ntmps25
    go_wp2_with fail
    go_ret
    exact ⟨ret_int HR.out.symm, rfl⟩
  by_cases q42 : (s[p]'h) = 42
  · have HR := Lib.hid (show markN s.data.toList p = 1 from by unfold markN; rw [g0, g1]; simp [markC, q42])
    have t60 : (((s[p]'h).toNat : Int) == 60) = false := byte_ne (k := 60) q60
    have t62 : (((s[p]'h).toNat : Int) == 62) = false := byte_ne (k := 62) q62
    have t43 : (((s[p]'h).toNat : Int) == 43) = false := byte_ne (k := 43) q43
    have t45 : (((s[p]'h).toNat : Int) == 45) = false := byte_ne (k := 45) q45
    have t42 : (((s[p]'h).toNat : Int) == 42) = true := byte_eq (k := 42) q42
    clear g0 g1 q60 q62 q43 q45 q42
    go_enter Tryd.func25, Tryd.ntmps25
    go_wp2_with fail
    go_ret
    exact ⟨ret_int HR.out.symm, rfl⟩
  by_cases q47 : (s[p]'h) = 47
  · have HR := Lib.hid (show markN s.data.toList p = 1 from by unfold markN; rw [g0, g1]; simp [markC, q47])
    have t60 : (((s[p]'h).toNat : Int) == 60) = false := byte_ne (k := 60) q60
    have t62 : (((s[p]'h).toNat : Int) == 62) = false := byte_ne (k := 62) q62
    have t43 : (((s[p]'h).toNat : Int) == 43) = false := byte_ne (k := 43) q43
    have t45 : (((s[p]'h).toNat : Int) == 45) = false := byte_ne (k := 45) q45
    have t42 : (((s[p]'h).toNat : Int) == 42) = false := byte_ne (k := 42) q42
    have t47 : (((s[p]'h).toNat : Int) == 47) = true := byte_eq (k := 47) q47
    clear g0 g1 q60 q62 q43 q45 q42 q47
    go_enter Tryd.func25, Tryd.ntmps25
    go_wp2_with fail
    go_ret
    exact ⟨ret_int HR.out.symm, rfl⟩
  by_cases q40 : (s[p]'h) = 40
  · have HR := Lib.hid (show markN s.data.toList p = 1 from by unfold markN; rw [g0, g1]; simp [markC, q40])
    have t60 : (((s[p]'h).toNat : Int) == 60) = false := byte_ne (k := 60) q60
    have t62 : (((s[p]'h).toNat : Int) == 62) = false := byte_ne (k := 62) q62
    have t43 : (((s[p]'h).toNat : Int) == 43) = false := byte_ne (k := 43) q43
    have t45 : (((s[p]'h).toNat : Int) == 45) = false := byte_ne (k := 45) q45
    have t42 : (((s[p]'h).toNat : Int) == 42) = false := byte_ne (k := 42) q42
    have t47 : (((s[p]'h).toNat : Int) == 47) = false := byte_ne (k := 47) q47
    have t40 : (((s[p]'h).toNat : Int) == 40) = true := byte_eq (k := 40) q40
    clear g0 g1 q60 q62 q43 q45 q42 q47 q40
    go_enter Tryd.func25, Tryd.ntmps25
    go_wp2_with fail
    go_ret
    exact ⟨ret_int HR.out.symm, rfl⟩
  by_cases q41 : (s[p]'h) = 41
  · have HR := Lib.hid (show markN s.data.toList p = 1 from by unfold markN; rw [g0, g1]; simp [markC, q41])
    have t60 : (((s[p]'h).toNat : Int) == 60) = false := byte_ne (k := 60) q60
    have t62 : (((s[p]'h).toNat : Int) == 62) = false := byte_ne (k := 62) q62
    have t43 : (((s[p]'h).toNat : Int) == 43) = false := byte_ne (k := 43) q43
    have t45 : (((s[p]'h).toNat : Int) == 45) = false := byte_ne (k := 45) q45
    have t42 : (((s[p]'h).toNat : Int) == 42) = false := byte_ne (k := 42) q42
    have t47 : (((s[p]'h).toNat : Int) == 47) = false := byte_ne (k := 47) q47
    have t40 : (((s[p]'h).toNat : Int) == 40) = false := byte_ne (k := 40) q40
    have t41 : (((s[p]'h).toNat : Int) == 41) = true := byte_eq (k := 41) q41
    clear g0 g1 q60 q62 q43 q45 q42 q47 q40 q41
    go_enter Tryd.func25, Tryd.ntmps25
    go_wp2_with fail
    go_ret
    exact ⟨ret_int HR.out.symm, rfl⟩
  by_cases q44 : (s[p]'h) = 44
  · have HR := Lib.hid (show markN s.data.toList p = 1 from by unfold markN; rw [g0, g1]; simp [markC, q44])
    have t60 : (((s[p]'h).toNat : Int) == 60) = false := byte_ne (k := 60) q60
    have t62 : (((s[p]'h).toNat : Int) == 62) = false := byte_ne (k := 62) q62
    have t43 : (((s[p]'h).toNat : Int) == 43) = false := byte_ne (k := 43) q43
    have t45 : (((s[p]'h).toNat : Int) == 45) = false := byte_ne (k := 45) q45
    have t42 : (((s[p]'h).toNat : Int) == 42) = false := byte_ne (k := 42) q42
    have t47 : (((s[p]'h).toNat : Int) == 47) = false := byte_ne (k := 47) q47
    have t40 : (((s[p]'h).toNat : Int) == 40) = false := byte_ne (k := 40) q40
    have t41 : (((s[p]'h).toNat : Int) == 41) = false := byte_ne (k := 41) q41
    have t44 : (((s[p]'h).toNat : Int) == 44) = true := byte_eq (k := 44) q44
    clear g0 g1 q60 q62 q43 q45 q42 q47 q40 q41 q44
    go_enter Tryd.func25, Tryd.ntmps25
    go_wp2_with fail
    go_ret
    exact ⟨ret_int HR.out.symm, rfl⟩
  by_cases q58 : (s[p]'h) = 58
  · have HR := Lib.hid (show markN s.data.toList p = 1 from by unfold markN; rw [g0, g1]; simp [markC, q58])
    have t60 : (((s[p]'h).toNat : Int) == 60) = false := byte_ne (k := 60) q60
    have t62 : (((s[p]'h).toNat : Int) == 62) = false := byte_ne (k := 62) q62
    have t43 : (((s[p]'h).toNat : Int) == 43) = false := byte_ne (k := 43) q43
    have t45 : (((s[p]'h).toNat : Int) == 45) = false := byte_ne (k := 45) q45
    have t42 : (((s[p]'h).toNat : Int) == 42) = false := byte_ne (k := 42) q42
    have t47 : (((s[p]'h).toNat : Int) == 47) = false := byte_ne (k := 47) q47
    have t40 : (((s[p]'h).toNat : Int) == 40) = false := byte_ne (k := 40) q40
    have t41 : (((s[p]'h).toNat : Int) == 41) = false := byte_ne (k := 41) q41
    have t44 : (((s[p]'h).toNat : Int) == 44) = false := byte_ne (k := 44) q44
    have t58 : (((s[p]'h).toNat : Int) == 58) = true := byte_eq (k := 58) q58
    clear g0 g1 q60 q62 q43 q45 q42 q47 q40 q41 q44 q58
    go_enter Tryd.func25, Tryd.ntmps25
    go_wp2_with fail
    go_ret
    exact ⟨ret_int HR.out.symm, rfl⟩
  by_cases q61 : (s[p]'h) = 61
  · have HR := Lib.hid (show markN s.data.toList p = 1 from by unfold markN; rw [g0, g1]; simp [markC, q61])
    have t60 : (((s[p]'h).toNat : Int) == 60) = false := byte_ne (k := 60) q60
    have t62 : (((s[p]'h).toNat : Int) == 62) = false := byte_ne (k := 62) q62
    have t43 : (((s[p]'h).toNat : Int) == 43) = false := byte_ne (k := 43) q43
    have t45 : (((s[p]'h).toNat : Int) == 45) = false := byte_ne (k := 45) q45
    have t42 : (((s[p]'h).toNat : Int) == 42) = false := byte_ne (k := 42) q42
    have t47 : (((s[p]'h).toNat : Int) == 47) = false := byte_ne (k := 47) q47
    have t40 : (((s[p]'h).toNat : Int) == 40) = false := byte_ne (k := 40) q40
    have t41 : (((s[p]'h).toNat : Int) == 41) = false := byte_ne (k := 41) q41
    have t44 : (((s[p]'h).toNat : Int) == 44) = false := byte_ne (k := 44) q44
    have t58 : (((s[p]'h).toNat : Int) == 58) = false := byte_ne (k := 58) q58
    have t61 : (((s[p]'h).toNat : Int) == 61) = true := byte_eq (k := 61) q61
    clear g0 g1 q60 q62 q43 q45 q42 q47 q40 q41 q44 q58 q61
    go_enter Tryd.func25, Tryd.ntmps25
    go_wp2_with fail
    go_ret
    exact ⟨ret_int HR.out.symm, rfl⟩
  have HR := Lib.hid (show markN s.data.toList p = 0 from by unfold markN; rw [g0, g1]; simp [markC, q60, q62, q43, q45, q42, q47, q40, q41, q44, q58, q61])
  have t60 : (((s[p]'h).toNat : Int) == 60) = false := byte_ne (k := 60) q60
  have t62 : (((s[p]'h).toNat : Int) == 62) = false := byte_ne (k := 62) q62
  have t43 : (((s[p]'h).toNat : Int) == 43) = false := byte_ne (k := 43) q43
  have t45 : (((s[p]'h).toNat : Int) == 45) = false := byte_ne (k := 45) q45
  have t42 : (((s[p]'h).toNat : Int) == 42) = false := byte_ne (k := 42) q42
  have t47 : (((s[p]'h).toNat : Int) == 47) = false := byte_ne (k := 47) q47
  have t40 : (((s[p]'h).toNat : Int) == 40) = false := byte_ne (k := 40) q40
  have t41 : (((s[p]'h).toNat : Int) == 41) = false := byte_ne (k := 41) q41
  have t44 : (((s[p]'h).toNat : Int) == 44) = false := byte_ne (k := 44) q44
  have t58 : (((s[p]'h).toNat : Int) == 58) = false := byte_ne (k := 58) q58
  have t61 : (((s[p]'h).toNat : Int) == 61) = false := byte_ne (k := 61) q61
  clear g0 g1 q60 q62 q43 q45 q42 q47 q40 q41 q44 q58 q61
  go_enter Tryd.func25, Tryd.ntmps25
  go_wp2_with fail
  go_ret
  exact ⟨ret_int HR.out.symm, rfl⟩

set_option maxHeartbeats 2000000 in
theorem lmark_last (s : ByteArray) (hs : s.size ≤ 9223372036854775807) (p : Nat) (h : p < s.size) (hp : ¬ p + 1 < s.size) (w : World) :
    Calls Tryd.prog 25 #[.string s, .int .i64 (p : Int)] w fun e w' => e = .returned (.int .i64 (markN s.data.toList p)) ∧ w = w' := by
  have g0 := byte_getD s p h
  have g1 := byte_past s (p + 1) hp
  have dp : decide ((p : Int) + 1 < (s.size : Int)) = false := decide_eq_false (by omega)
  by_cases q60 : (s[p]'h) = 60
  · have HR := Lib.hid (show markN s.data.toList p = 1 from by unfold markN; rw [g0, g1]; simp [markC, q60])
    have t60 : (((s[p]'h).toNat : Int) == 60) = true := byte_eq (k := 60) q60
    have t43 : (((s[p]'h).toNat : Int) == 43) = false := byte_ne (k := 43) (by rw [q60]; decide)
    have t45 : (((s[p]'h).toNat : Int) == 45) = false := byte_ne (k := 45) (by rw [q60]; decide)
    have t42 : (((s[p]'h).toNat : Int) == 42) = false := byte_ne (k := 42) (by rw [q60]; decide)
    have t47 : (((s[p]'h).toNat : Int) == 47) = false := byte_ne (k := 47) (by rw [q60]; decide)
    have t40 : (((s[p]'h).toNat : Int) == 40) = false := byte_ne (k := 40) (by rw [q60]; decide)
    have t41 : (((s[p]'h).toNat : Int) == 41) = false := byte_ne (k := 41) (by rw [q60]; decide)
    have t44 : (((s[p]'h).toNat : Int) == 44) = false := byte_ne (k := 44) (by rw [q60]; decide)
    have t58 : (((s[p]'h).toNat : Int) == 58) = false := byte_ne (k := 58) (by rw [q60]; decide)
    have t62 : (((s[p]'h).toNat : Int) == 62) = false := byte_ne (k := 62) (by rw [q60]; decide)
    clear g0 g1 q60
    go_enter Tryd.func25, Tryd.ntmps25
    go_wp2_with fail
    go_ret
    exact ⟨ret_int HR.out.symm, rfl⟩
  by_cases q62 : (s[p]'h) = 62
  · have HR := Lib.hid (show markN s.data.toList p = 1 from by unfold markN; rw [g0, g1]; simp [markC, q62])
    have t43 : (((s[p]'h).toNat : Int) == 43) = false := byte_ne (k := 43) (by rw [q62]; decide)
    have t45 : (((s[p]'h).toNat : Int) == 45) = false := byte_ne (k := 45) (by rw [q62]; decide)
    have t42 : (((s[p]'h).toNat : Int) == 42) = false := byte_ne (k := 42) (by rw [q62]; decide)
    have t47 : (((s[p]'h).toNat : Int) == 47) = false := byte_ne (k := 47) (by rw [q62]; decide)
    have t40 : (((s[p]'h).toNat : Int) == 40) = false := byte_ne (k := 40) (by rw [q62]; decide)
    have t41 : (((s[p]'h).toNat : Int) == 41) = false := byte_ne (k := 41) (by rw [q62]; decide)
    have t44 : (((s[p]'h).toNat : Int) == 44) = false := byte_ne (k := 44) (by rw [q62]; decide)
    have t58 : (((s[p]'h).toNat : Int) == 58) = false := byte_ne (k := 58) (by rw [q62]; decide)
    have t60 : (((s[p]'h).toNat : Int) == 60) = false := byte_ne (k := 60) q60
    have t61 : (((s[p]'h).toNat : Int) == 61) = false := byte_ne (k := 61) (by rw [q62]; decide)
    have t62 : (((s[p]'h).toNat : Int) == 62) = true := byte_eq (k := 62) q62
    clear g0 g1 q60 q62
    go_enter Tryd.func25, Tryd.ntmps25
    go_wp2_with fail
    go_ret
    exact ⟨ret_int HR.out.symm, rfl⟩
  by_cases q43 : (s[p]'h) = 43
  · have HR := Lib.hid (show markN s.data.toList p = 1 from by unfold markN; rw [g0, g1]; simp [markC, q43])
    have t60 : (((s[p]'h).toNat : Int) == 60) = false := byte_ne (k := 60) q60
    have t62 : (((s[p]'h).toNat : Int) == 62) = false := byte_ne (k := 62) q62
    have t43 : (((s[p]'h).toNat : Int) == 43) = true := byte_eq (k := 43) q43
    clear g0 g1 q60 q62 q43
    go_enter Tryd.func25, Tryd.ntmps25
    go_wp2_with fail
    go_ret
    exact ⟨ret_int HR.out.symm, rfl⟩
  by_cases q45 : (s[p]'h) = 45
  · have HR := Lib.hid (show markN s.data.toList p = 1 from by unfold markN; rw [g0, g1]; simp [markC, q45])
    have t60 : (((s[p]'h).toNat : Int) == 60) = false := byte_ne (k := 60) q60
    have t62 : (((s[p]'h).toNat : Int) == 62) = false := byte_ne (k := 62) q62
    have t43 : (((s[p]'h).toNat : Int) == 43) = false := byte_ne (k := 43) q43
    have t45 : (((s[p]'h).toNat : Int) == 45) = true := byte_eq (k := 45) q45
    clear g0 g1 q60 q62 q43 q45
    go_enter Tryd.func25, Tryd.ntmps25
    go_wp2_with fail
    go_ret
    exact ⟨ret_int HR.out.symm, rfl⟩
  by_cases q42 : (s[p]'h) = 42
  · have HR := Lib.hid (show markN s.data.toList p = 1 from by unfold markN; rw [g0, g1]; simp [markC, q42])
    have t60 : (((s[p]'h).toNat : Int) == 60) = false := byte_ne (k := 60) q60
    have t62 : (((s[p]'h).toNat : Int) == 62) = false := byte_ne (k := 62) q62
    have t43 : (((s[p]'h).toNat : Int) == 43) = false := byte_ne (k := 43) q43
    have t45 : (((s[p]'h).toNat : Int) == 45) = false := byte_ne (k := 45) q45
    have t42 : (((s[p]'h).toNat : Int) == 42) = true := byte_eq (k := 42) q42
    clear g0 g1 q60 q62 q43 q45 q42
    go_enter Tryd.func25, Tryd.ntmps25
    go_wp2_with fail
    go_ret
    exact ⟨ret_int HR.out.symm, rfl⟩
  by_cases q47 : (s[p]'h) = 47
  · have HR := Lib.hid (show markN s.data.toList p = 1 from by unfold markN; rw [g0, g1]; simp [markC, q47])
    have t60 : (((s[p]'h).toNat : Int) == 60) = false := byte_ne (k := 60) q60
    have t62 : (((s[p]'h).toNat : Int) == 62) = false := byte_ne (k := 62) q62
    have t43 : (((s[p]'h).toNat : Int) == 43) = false := byte_ne (k := 43) q43
    have t45 : (((s[p]'h).toNat : Int) == 45) = false := byte_ne (k := 45) q45
    have t42 : (((s[p]'h).toNat : Int) == 42) = false := byte_ne (k := 42) q42
    have t47 : (((s[p]'h).toNat : Int) == 47) = true := byte_eq (k := 47) q47
    clear g0 g1 q60 q62 q43 q45 q42 q47
    go_enter Tryd.func25, Tryd.ntmps25
    go_wp2_with fail
    go_ret
    exact ⟨ret_int HR.out.symm, rfl⟩
  by_cases q40 : (s[p]'h) = 40
  · have HR := Lib.hid (show markN s.data.toList p = 1 from by unfold markN; rw [g0, g1]; simp [markC, q40])
    have t60 : (((s[p]'h).toNat : Int) == 60) = false := byte_ne (k := 60) q60
    have t62 : (((s[p]'h).toNat : Int) == 62) = false := byte_ne (k := 62) q62
    have t43 : (((s[p]'h).toNat : Int) == 43) = false := byte_ne (k := 43) q43
    have t45 : (((s[p]'h).toNat : Int) == 45) = false := byte_ne (k := 45) q45
    have t42 : (((s[p]'h).toNat : Int) == 42) = false := byte_ne (k := 42) q42
    have t47 : (((s[p]'h).toNat : Int) == 47) = false := byte_ne (k := 47) q47
    have t40 : (((s[p]'h).toNat : Int) == 40) = true := byte_eq (k := 40) q40
    clear g0 g1 q60 q62 q43 q45 q42 q47 q40
    go_enter Tryd.func25, Tryd.ntmps25
    go_wp2_with fail
    go_ret
    exact ⟨ret_int HR.out.symm, rfl⟩
  by_cases q41 : (s[p]'h) = 41
  · have HR := Lib.hid (show markN s.data.toList p = 1 from by unfold markN; rw [g0, g1]; simp [markC, q41])
    have t60 : (((s[p]'h).toNat : Int) == 60) = false := byte_ne (k := 60) q60
    have t62 : (((s[p]'h).toNat : Int) == 62) = false := byte_ne (k := 62) q62
    have t43 : (((s[p]'h).toNat : Int) == 43) = false := byte_ne (k := 43) q43
    have t45 : (((s[p]'h).toNat : Int) == 45) = false := byte_ne (k := 45) q45
    have t42 : (((s[p]'h).toNat : Int) == 42) = false := byte_ne (k := 42) q42
    have t47 : (((s[p]'h).toNat : Int) == 47) = false := byte_ne (k := 47) q47
    have t40 : (((s[p]'h).toNat : Int) == 40) = false := byte_ne (k := 40) q40
    have t41 : (((s[p]'h).toNat : Int) == 41) = true := byte_eq (k := 41) q41
    clear g0 g1 q60 q62 q43 q45 q42 q47 q40 q41
    go_enter Tryd.func25, Tryd.ntmps25
    go_wp2_with fail
    go_ret
    exact ⟨ret_int HR.out.symm, rfl⟩
  by_cases q44 : (s[p]'h) = 44
  · have HR := Lib.hid (show markN s.data.toList p = 1 from by unfold markN; rw [g0, g1]; simp [markC, q44])
    have t60 : (((s[p]'h).toNat : Int) == 60) = false := byte_ne (k := 60) q60
    have t62 : (((s[p]'h).toNat : Int) == 62) = false := byte_ne (k := 62) q62
    have t43 : (((s[p]'h).toNat : Int) == 43) = false := byte_ne (k := 43) q43
    have t45 : (((s[p]'h).toNat : Int) == 45) = false := byte_ne (k := 45) q45
    have t42 : (((s[p]'h).toNat : Int) == 42) = false := byte_ne (k := 42) q42
    have t47 : (((s[p]'h).toNat : Int) == 47) = false := byte_ne (k := 47) q47
    have t40 : (((s[p]'h).toNat : Int) == 40) = false := byte_ne (k := 40) q40
    have t41 : (((s[p]'h).toNat : Int) == 41) = false := byte_ne (k := 41) q41
    have t44 : (((s[p]'h).toNat : Int) == 44) = true := byte_eq (k := 44) q44
    clear g0 g1 q60 q62 q43 q45 q42 q47 q40 q41 q44
    go_enter Tryd.func25, Tryd.ntmps25
    go_wp2_with fail
    go_ret
    exact ⟨ret_int HR.out.symm, rfl⟩
  by_cases q58 : (s[p]'h) = 58
  · have HR := Lib.hid (show markN s.data.toList p = 1 from by unfold markN; rw [g0, g1]; simp [markC, q58])
    have t60 : (((s[p]'h).toNat : Int) == 60) = false := byte_ne (k := 60) q60
    have t62 : (((s[p]'h).toNat : Int) == 62) = false := byte_ne (k := 62) q62
    have t43 : (((s[p]'h).toNat : Int) == 43) = false := byte_ne (k := 43) q43
    have t45 : (((s[p]'h).toNat : Int) == 45) = false := byte_ne (k := 45) q45
    have t42 : (((s[p]'h).toNat : Int) == 42) = false := byte_ne (k := 42) q42
    have t47 : (((s[p]'h).toNat : Int) == 47) = false := byte_ne (k := 47) q47
    have t40 : (((s[p]'h).toNat : Int) == 40) = false := byte_ne (k := 40) q40
    have t41 : (((s[p]'h).toNat : Int) == 41) = false := byte_ne (k := 41) q41
    have t44 : (((s[p]'h).toNat : Int) == 44) = false := byte_ne (k := 44) q44
    have t58 : (((s[p]'h).toNat : Int) == 58) = true := byte_eq (k := 58) q58
    clear g0 g1 q60 q62 q43 q45 q42 q47 q40 q41 q44 q58
    go_enter Tryd.func25, Tryd.ntmps25
    go_wp2_with fail
    go_ret
    exact ⟨ret_int HR.out.symm, rfl⟩
  by_cases q61 : (s[p]'h) = 61
  · have HR := Lib.hid (show markN s.data.toList p = 1 from by unfold markN; rw [g0, g1]; simp [markC, q61])
    have t60 : (((s[p]'h).toNat : Int) == 60) = false := byte_ne (k := 60) q60
    have t62 : (((s[p]'h).toNat : Int) == 62) = false := byte_ne (k := 62) q62
    have t43 : (((s[p]'h).toNat : Int) == 43) = false := byte_ne (k := 43) q43
    have t45 : (((s[p]'h).toNat : Int) == 45) = false := byte_ne (k := 45) q45
    have t42 : (((s[p]'h).toNat : Int) == 42) = false := byte_ne (k := 42) q42
    have t47 : (((s[p]'h).toNat : Int) == 47) = false := byte_ne (k := 47) q47
    have t40 : (((s[p]'h).toNat : Int) == 40) = false := byte_ne (k := 40) q40
    have t41 : (((s[p]'h).toNat : Int) == 41) = false := byte_ne (k := 41) q41
    have t44 : (((s[p]'h).toNat : Int) == 44) = false := byte_ne (k := 44) q44
    have t58 : (((s[p]'h).toNat : Int) == 58) = false := byte_ne (k := 58) q58
    have t61 : (((s[p]'h).toNat : Int) == 61) = true := byte_eq (k := 61) q61
    clear g0 g1 q60 q62 q43 q45 q42 q47 q40 q41 q44 q58 q61
    go_enter Tryd.func25, Tryd.ntmps25
    go_wp2_with fail
    go_ret
    exact ⟨ret_int HR.out.symm, rfl⟩
  have HR := Lib.hid (show markN s.data.toList p = 0 from by unfold markN; rw [g0, g1]; simp [markC, q60, q62, q43, q45, q42, q47, q40, q41, q44, q58, q61])
  have t60 : (((s[p]'h).toNat : Int) == 60) = false := byte_ne (k := 60) q60
  have t62 : (((s[p]'h).toNat : Int) == 62) = false := byte_ne (k := 62) q62
  have t43 : (((s[p]'h).toNat : Int) == 43) = false := byte_ne (k := 43) q43
  have t45 : (((s[p]'h).toNat : Int) == 45) = false := byte_ne (k := 45) q45
  have t42 : (((s[p]'h).toNat : Int) == 42) = false := byte_ne (k := 42) q42
  have t47 : (((s[p]'h).toNat : Int) == 47) = false := byte_ne (k := 47) q47
  have t40 : (((s[p]'h).toNat : Int) == 40) = false := byte_ne (k := 40) q40
  have t41 : (((s[p]'h).toNat : Int) == 41) = false := byte_ne (k := 41) q41
  have t44 : (((s[p]'h).toNat : Int) == 44) = false := byte_ne (k := 44) q44
  have t58 : (((s[p]'h).toNat : Int) == 58) = false := byte_ne (k := 58) q58
  have t61 : (((s[p]'h).toNat : Int) == 61) = false := byte_ne (k := 61) q61
  clear g0 g1 q60 q62 q43 q45 q42 q47 q40 q41 q44 q58 q61
  go_enter Tryd.func25, Tryd.ntmps25
  go_wp2_with fail
  go_ret
  exact ⟨ret_int HR.out.symm, rfl⟩

theorem lmark_any (s : ByteArray) (hs : s.size ≤ 9223372036854775807) (p : Nat) (h : p < s.size) (w : World) :
    Calls Tryd.prog 25 #[.string s, .int .i64 (p : Int)] w fun e w' => e = .returned (.int .i64 (markN s.data.toList p)) ∧ w = w' := by
  by_cases hp : p + 1 < s.size
  · exact lmark_two s hs p h hp w
  · exact lmark_last s hs p h hp w
end Go.Proofs.YtjfmmnebhmlkeaaDoor
