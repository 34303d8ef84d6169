/- Texts joined: LxC, RefE, LxD. -/
import Derived.Test.YthaoalmhhgllmaaDoorMb02
set_option linter.all false
namespace Go.Proofs.YthaoalmhhgllmaaDoor
open Go.RowKit
def markC (c d : UInt8) : Int :=
  if c = 60 ∧ (d = 61 ∨ d = 62) ∨ c = 62 ∧ d = 61 then 2
  else if c = 43 ∨ c = 45 ∨ c = 42 ∨ c = 47 ∨ c = 40 ∨ c = 41 ∨ c = 44 ∨ c = 58 ∨ c = 60 ∨ c = 61 ∨ c = 62 then 1 else 0
def markN (l : List UInt8) (p : Nat) : Int := markC (l.getD p 0) (l.getD (p + 1) 0)
theorem byte_ne {c k : UInt8} (h : ¬ c = k) : ((c.toNat : Int) == (k.toNat : Int)) = false := by
  rw [beq_eq_false_iff_ne]
  intro e
  exact h (UInt8.toNat_inj.1 (by omega))
theorem byte_eq {c k : UInt8} (h : c = k) : ((c.toNat : Int) == (k.toNat : Int)) = true := by rw [h]; simp
theorem byte_past (s : ByteArray) (i : Nat) (h : ¬ i < s.size) : s.data.toList.getD i 0 = 0 := by
  rw [List.getD_eq_getElem?_getD, List.getElem?_eq_none (by rw [len_of]; omega)]; rfl

set_option maxHeartbeats 2000000 in
theorem lmark_two (s : ByteArray) (hs : s.size ≤ 9223372036854775807) (p : Nat) (h : p < s.size) (hp : p + 1 < s.size) (w : World) :
    Calls Tryd.prog 73 #[.string s, .int .i64 (p : Int)] w fun e w' => e = .returned (.int .i64 (markN s.data.toList p)) ∧ w = w' := by
  have g0 := byte_getD s p h
  have g1 := byte_getD s (p + 1) hp
  by_cases q60 : (s[p]'h) = 60
  · by_cases d61 : (s[p + 1]'hp) = 61
    · have HR := Lib.hid (show markN s.data.toList p = 2 from by unfold markN; rw [g0, g1]; simp [markC, q60, d61])
      have t60 : (((s[p]'h).toNat : Int) == 60) = true := byte_eq (k := 60) q60
      have u61 : (((s[p + 1]'hp).toNat : Int) == 61) = true := byte_eq (k := 61) d61
      clear g0 g1 q60 d61
      go_enter Tryd.func73, Tryd.ntmps73
      go_wp2_with fail
      go_ret
      exact ⟨ret_int HR.out.symm, rfl⟩
    by_cases d62 : (s[p + 1]'hp) = 62
    · have HR := Lib.hid (show markN s.data.toList p = 2 from by unfold markN; rw [g0, g1]; simp [markC, q60, d62])
      have t60 : (((s[p]'h).toNat : Int) == 60) = true := byte_eq (k := 60) q60
      have u61 : (((s[p + 1]'hp).toNat : Int) == 61) = false := byte_ne (k := 61) d61
      have u62 : (((s[p + 1]'hp).toNat : Int) == 62) = true := byte_eq (k := 62) d62
      clear g0 g1 q60 d61 d62
      go_enter Tryd.func73, Tryd.ntmps73
      go_wp2_with fail
      go_ret
      exact ⟨ret_int HR.out.symm, rfl⟩
    have HR := Lib.hid (show markN s.data.toList p = 1 from by unfold markN; rw [g0, g1]; simp [markC, q60, d61, d62])
    have t60 : (((s[p]'h).toNat : Int) == 60) = true := byte_eq (k := 60) q60
    have t43 : (((s[p]'h).toNat : Int) == 43) = false := byte_ne (k := 43) (by rw [q60]; decide)
    have t45 : (((s[p]'h).toNat : Int) == 45) = false := byte_ne (k := 45) (by rw [q60]; decide)
    have t42 : (((s[p]'h).toNat : Int) == 42) = false := byte_ne (k := 42) (by rw [q60]; decide)
    have t47 : (((s[p]'h).toNat : Int) == 47) = false := byte_ne (k := 47) (by rw [q60]; decide)
    have t40 : (((s[p]'h).toNat : Int) == 40) = false := byte_ne (k := 40) (by rw [q60]; decide)
    have t41 : (((s[p]'h).toNat : Int) == 41) = false := byte_ne (k := 41) (by rw [q60]; decide)
    have t44 : (((s[p]'h).toNat : Int) == 44) = false := byte_ne (k := 44) (by rw [q60]; decide)
    have t58 : (((s[p]'h).toNat : Int) == 58) = false := byte_ne (k := 58) (by rw [q60]; decide)
    have t62 : (((s[p]'h).toNat : Int) == 62) = false := byte_ne (k := 62) (by rw [q60]; decide)
    have u61 : (((s[p + 1]'hp).toNat : Int) == 61) = false := byte_ne (k := 61) d61
    have u62 : (((s[p + 1]'hp).toNat : Int) == 62) = false := byte_ne (k := 62) d62
    clear g0 g1 q60 d61 d62
    go_enter Tryd.func73, Tryd.ntmps73
    go_wp2_with fail
    go_ret
    exact ⟨ret_int HR.out.symm, rfl⟩
  by_cases q62 : (s[p]'h) = 62
  · by_cases d61 : (s[p + 1]'hp) = 61
    · have HR := Lib.hid (show markN s.data.toList p = 2 from by unfold markN; rw [g0, g1]; simp [markC, q62, d61])
      have t60 : (((s[p]'h).toNat : Int) == 60) = false := byte_ne (k := 60) q60
      have t62 : (((s[p]'h).toNat : Int) == 62) = true := byte_eq (k := 62) q62
      have u61 : (((s[p + 1]'hp).toNat : Int) == 61) = true := byte_eq (k := 61) d61
      clear g0 g1 q60 q62 d61
      go_enter Tryd.func73, Tryd.ntmps73
      go_wp2_with fail
      go_ret
      exact ⟨ret_int HR.out.symm, rfl⟩
    have HR := Lib.hid (show markN s.data.toList p = 1 from by unfold markN; rw [g0, g1]; simp [markC, q62, d61])
    have t43 : (((s[p]'h).toNat : Int) == 43) = false := byte_ne (k := 43) (by rw [q62]; decide)
    have t45 : (((s[p]'h).toNat : Int) == 45) = false := byte_ne (k := 45) (by rw [q62]; decide)
    have t42 : (((s[p]'h).toNat : Int) == 42) = false := byte_ne (k := 42) (by rw [q62]; decide)
    have t47 : (((s[p]'h).toNat : Int) == 47) = false := byte_ne (k := 47) (by rw [q62]; decide)
    have t40 : (((s[p]'h).toNat : Int) == 40) = false := byte_ne (k := 40) (by rw [q62]; decide)
    have t41 : (((s[p]'h).toNat : Int) == 41) = false := byte_ne (k := 41) (by rw [q62]; decide)
    have t44 : (((s[p]'h).toNat : Int) == 44) = false := byte_ne (k := 44) (by rw [q62]; decide)
    have t58 : (((s[p]'h).toNat : Int) == 58) = false := byte_ne (k := 58) (by rw [q62]; decide)
    have t60 : (((s[p]'h).toNat : Int) == 60) = false := byte_ne (k := 60) q60
    have t61 : (((s[p]'h).toNat : Int) == 61) = false := byte_ne (k := 61) (by rw [q62]; decide)
    have t62 : (((s[p]'h).toNat : Int) == 62) = true := byte_eq (k := 62) q62
    have u61 : (((s[p + 1]'hp).toNat : Int) == 61) = false := byte_ne (k := 61) d61
    clear g0 g1 q60 q62 d61
    go_enter Tryd.func73, Tryd.ntmps73
    go_wp2_with fail
    go_ret
    exact ⟨ret_int HR.out.symm, rfl⟩
  by_cases q43 : (s[p]'h) = 43
  · have HR := Lib.hid (show markN s.data.toList p = 1 from by unfold markN; rw [g0, g1]; simp [markC, q43])
    have t60 : (((s[p]'h).toNat : Int) == 60) = false := byte_ne (k := 60) q60
    have t62 : (((s[p]'h).toNat : Int) == 62) = false := byte_ne (k := 62) q62
    have t43 : (((s[p]'h).toNat : Int) == 43) = true := byte_eq (k := 43) q43
    clear g0 g1 q60 q62 q43
    go_enter Tryd.func73, Tryd.ntmps73
    go_wp2_with fail
    go_ret
    exact ⟨ret_int HR.out.symm, rfl⟩
  by_cases q45 : (s[p]'h) = 45
  · have HR := Lib.hid (show markN s.data.toList p = 1 from by unfold markN; rw [g0, g1]; simp [markC, q45])
    have t60 : (((s[p]'h).toNat : Int) == 60) = false := byte_ne (k := 60) q60
    have t62 : (((s[p]'h).toNat : Int) == 62) = false := byte_ne (k := 62) q62
    have t43 : (((s[p]'h).toNat : Int) == 43) = false := byte_ne (k := 43) q43
    have t45 : (((s[p]'h).toNat : Int) == 45) = true := byte_eq (k := 45) q45
    clear g0 g1 q60 q62 q43 q45
    go_enter Tryd.func73, Tryd.ntmps73
    go_wp2_with fail
    go_ret
    exact ⟨ret_int HR.out.symm, rfl⟩
  by_cases q42 : (s[p]'h) = 42
  · have HR := Lib.hid (show markN s.data.toList p = 1 from by unfold markN; rw [g0, g1]; simp [markC, q42])
    have t60 : (((s[p]'h).toNat : Int) == 60) = false := byte_ne (k := 60) q60
    have t62 : (((s[p]'h).toNat : Int) == 62) = false := byte_ne (k := 62) q62
    have t43 : (((s[p]'h).toNat : Int) == 43) = false := byte_ne (k := 43) q43
    have t45 : (((s[p]'h).toNat : Int) == 45) = false := byte_ne (k := 45) q45
    have t42 : (((s[p]'h).toNat : Int) == 42) = true := byte_eq (k := 42) q42
    clear g0 g1 q60 q62 q43 q45 q42
    go_enter Tryd.func73, Tryd.ntmps73
    go_wp2_with fail
    go_ret
    exact ⟨ret_int HR.out.symm, rfl⟩
  by_cases q47 : (s[p]'h) = 47
  · have HR := Lib.hid (show markN s.data.toList p = 1 from by unfold markN; rw [g0, g1]; simp [markC, q47])
    have t60 : (((s[p]'h).toNat : Int) == 60) = false := byte_ne (k := 60) q60
    have t62 : (((s[p]'h).toNat : Int) == 62) = false := byte_ne (k := 62) q62
    have t43 : (((s[p]'h).toNat : Int) == 43) = false := byte_ne (k := 43) q43
    have t45 : (((s[p]'h).toNat : Int) == 45) = false := byte_ne (k := 45) q45
    have t42 : (((s[p]'h).toNat : Int) == 42) = false := byte_ne (k := 42) q42
    have t47 : (((s[p]'h).toNat : Int) == 47) = true := byte_eq (k := 47) q47
    clear g0 g1 q60 q62 q43 q45 q42 q47
    go_enter Tryd.func73, Tryd.ntmps73
    go_wp2_with fail
    go_ret
    exact ⟨ret_int HR.out.symm, rfl⟩
  by_cases q40 : (s[p]'h) = 40
  · have HR := Lib.hid (show markN s.data.toList p = 1 from by unfold markN; rw [g0, g1]; simp [markC, q40])
    have t60 : (((s[p]'h).toNat : Int) == 60) = false := byte_ne (k := 60) q60
    have t62 : (((s[p]'h).toNat : Int) == 62) = false := byte_ne (k := 62) q62
    have t43 : (((s[p]'h).toNat : Int) == 43) = false := byte_ne (k := 43) q43
    have t45 : (((s[p]'h).toNat : Int) == 45) = false := byte_ne (k := 45) q45
    have t42 : (((s[p]'h).toNat : Int) == 42) = false := byte_ne (k := 42) q42
    have t47 : (((s[p]'h).toNat : Int) == 47) = false := byte_ne (k := 47) q47
    have t40 : (((s[p]'h).toNat : Int) == 40) = true := byte_eq (k := 40) q40
    clear g0 g1 q60 q62 q43 q45 q42 q47 q40
    go_enter Tryd.func73, Tryd.ntmps73
    go_wp2_with fail
    go_ret
    exact ⟨ret_int HR.out.symm, rfl⟩
  by_cases q41 : (s[p]'h) = 41
  · have HR := Lib.hid (show markN s.data.toList p = 1 from by unfold markN; rw [g0, g1]; simp [markC, q41])
    have t60 : (((s[p]'h).toNat : Int) == 60) = false := byte_ne (k := 60) q60
    have t62 : (((s[p]'h).toNat : Int) == 62) = false := byte_ne (k := 62) q62
    have t43 : (((s[p]'h).toNat : Int) == 43) = false := byte_ne (k := 43) q43
    have t45 : (((s[p]'h).toNat : Int) == 45) = false := byte_ne (k := 45) q45
    have t42 : (((s[p]'h).toNat : Int) == 42) = false := byte_ne (k := 42) q42
    have t47 : (((s[p]'h).toNat : Int) == 47) = false := byte_ne (k := 47) q47
    have t40 : (((s[p]'h).toNat : Int) == 40) = false := byte_ne (k := 40) q40
    have t41 : (((s[p]'h).toNat : Int) == 41) = true := byte_eq (k := 41) q41
    clear g0 g1 q60 q62 q43 q45 q42 q47 q40 q41
    go_enter Tryd.func73, Tryd.ntmps73
    go_wp2_with fail
    go_ret
    exact ⟨ret_int HR.out.symm, rfl⟩
  by_cases q44 : (s[p]'h) = 44
  · have HR := Lib.hid (show markN s.data.toList p = 1 from by unfold markN; rw [g0, g1]; simp [markC, q44])
    have t60 : (((s[p]'h).toNat : Int) == 60) = false := byte_ne (k := 60) q60
    have t62 : (((s[p]'h).toNat : Int) == 62) = false := byte_ne (k := 62) q62
    have t43 : (((s[p]'h).toNat : Int) == 43) = false := byte_ne (k := 43) q43
    have t45 : (((s[p]'h).toNat : Int) == 45) = false := byte_ne (k := 45) q45
    have t42 : (((s[p]'h).toNat : Int) == 42) = false := byte_ne (k := 42) q42
    have t47 : (((s[p]'h).toNat : Int) == 47) = false := byte_ne (k := 47) q47
    have t40 : (((s[p]'h).toNat : Int) == 40) = false := byte_ne (k := 40) q40
    have t41 : (((s[p]'h).toNat : Int) == 41) = false := byte_ne (k := 41) q41
    have t44 : (((s[p]'h).toNat : Int) == 44) = true := byte_eq (k := 44) q44
    clear g0 g1 q60 q62 q43 q45 q42 q47 q40 q41 q44
    go_enter Tryd.func73, Tryd.ntmps73
    go_wp2_with fail
    go_ret
    exact ⟨ret_int HR.out.symm, rfl⟩
  by_cases q58 : (s[p]'h) = 58
  · have HR := Lib.hid (show markN s.data.toList p = 1 from by unfold markN; rw [g0, g1]; simp [markC, q58])
    have t60 : (((s[p]'h).toNat : Int) == 60) = false := byte_ne (k := 60) q60
    have t62 : (((s[p]'h).toNat : Int) == 62) = false := byte_ne (k := 62) q62
    have t43 : (((s[p]'h).toNat : Int) == 43) = false := byte_ne (k := 43) q43
    have t45 : (((s[p]'h).toNat : Int) == 45) = false := byte_ne (k := 45) q45
    have t42 : (((s[p]'h).toNat : Int) == 42) = false := byte_ne (k := 42) q42
    have t47 : (((s[p]'h).toNat : Int) == 47) = false := byte_ne (k := 47) q47
    have t40 : (((s[p]'h).toNat : Int) == 40) = false := byte_ne (k := 40) q40
    have t41 : (((s[p]'h).toNat : Int) == 41) = false := byte_ne (k := 41) q41
    have t44 : (((s[p]'h).toNat : Int) == 44) = false := byte_ne (k := 44) q44
    have t58 : (((s[p]'h).toNat : Int) == 58) = true := byte_eq (k := 58) q58
    clear g0 g1 q60 q62 q43 q45 q42 q47 q40 q41 q44 q58
    go_enter Tryd.func73, Tryd.ntmps73
    go_wp2_with fail
    go_ret
    exact ⟨ret_int HR.out.symm, rfl⟩
  by_cases q61 : (s[p]'h) = 61
  · have HR := Lib.hid (show markN s.data.toList p = 1 from by unfold markN; rw [g0, g1]; simp [markC, q61])
    have t60 : (((s[p]'h).toNat : Int) == 60) = false := byte_ne (k := 60) q60
    have t62 : (((s[p]'h).toNat : Int) == 62) = false := byte_ne (k := 62) q62
    have t43 : (((s[p]'h).toNat : Int) == 43) = false := byte_ne (k := 43) q43
    have t45 : (((s[p]'h).toNat : Int) == 45) = false := byte_ne (k := 45) q45
    have t42 : (((s[p]'h).toNat : Int) == 42) = false := byte_ne (k := 42) q42
    have t47 : (((s[p]'h).toNat : Int) == 47) = false := byte_ne (k := 47) q47
    have t40 : (((s[p]'h).toNat : Int) == 40) = false := byte_ne (k := 40) q40
    have t41 : (((s[p]'h).toNat : Int) == 41) = false := byte_ne (k := 41) q41
    have t44 : (((s[p]'h).toNat : Int) == 44) = false := byte_ne (k := 44) q44
    have t58 : (((s[p]'h).toNat : Int) == 58) = false := byte_ne (k := 58) q58
    have t61 : (((s[p]'h).toNat : Int) == 61) = true := byte_eq (k := 61) q61
    clear g0 g1 q60 q62 q43 q45 q42 q47 q40 q41 q44 q58 q61
    go_enter Tryd.func73, Tryd.ntmps73
    go_wp2_with fail
    go_ret
    exact ⟨ret_int HR.out.symm, rfl⟩
  have HR := Lib.hid (show markN s.data.toList p = 0 from by unfold markN; rw [g0, g1]; simp [markC, q60, q62, q43, q45, q42, q47, q40, q41, q44, q58, q61])
  have t60 : (((s[p]'h).toNat : Int) == 60) = false := byte_ne (k := 60) q60
  have t62 : (((s[p]'h).toNat : Int) == 62) = false := byte_ne (k := 62) q62
  have t43 : (((s[p]'h).toNat : Int) == 43) = false := byte_ne (k := 43) q43
  have t45 : (((s[p]'h).toNat : Int) == 45) = false := byte_ne (k := 45) q45
  have t42 : (((s[p]'h).toNat : Int) == 42) = false := byte_ne (k := 42) q42
  have t47 : (((s[p]'h).toNat : Int) == 47) = false := byte_ne (k := 47) q47
  have t40 : (((s[p]'h).toNat : Int) == 40) = false := byte_ne (k := 40) q40
  have t41 : (((s[p]'h).toNat : Int) == 41) = false := byte_ne (k := 41) q41
  have t44 : (((s[p]'h).toNat : Int) == 44) = false := byte_ne (k := 44) q44
  have t58 : (((s[p]'h).toNat : Int) == 58) = false := byte_ne (k := 58) q58
  have t61 : (((s[p]'h).toNat : Int) == 61) = false := byte_ne (k := 61) q61
  clear g0 g1 q60 q62 q43 q45 q42 q47 q40 q41 q44 q58 q61
  go_enter Tryd.func73, Tryd.ntmps73
  go_wp2_with fail
  go_ret
  exact ⟨ret_int HR.out.symm, rfl⟩

set_option maxHeartbeats 2000000 in
theorem lmark_last (s : ByteArray) (hs : s.size ≤ 9223372036854775807) (p : Nat) (h : p < s.size) (hp : ¬ p + 1 < s.size) (w : World) :
    Calls Tryd.prog 73 #[.string s, .int .i64 (p : Int)] w fun e w' => e = .returned (.int .i64 (markN s.data.toList p)) ∧ w = w' := by
  have g0 := byte_getD s p h
  have g1 := byte_past s (p + 1) hp
  have dp : decide ((p : Int) + 1 < (s.size : Int)) = false := decide_eq_false (by omega)
  by_cases q60 : (s[p]'h) = 60
  · have HR := Lib.hid (show markN s.data.toList p = 1 from by unfold markN; rw [g0, g1]; simp [markC, q60])
    have t60 : (((s[p]'h).toNat : Int) == 60) = true := byte_eq (k := 60) q60
    have t43 : (((s[p]'h).toNat : Int) == 43) = false := byte_ne (k := 43) (by rw [q60]; decide)
    have t45 : (((s[p]'h).toNat : Int) == 45) = false := byte_ne (k := 45) (by rw [q60]; decide)
    have t42 : (((s[p]'h).toNat : Int) == 42) = false := byte_ne (k := 42) (by rw [q60]; decide)
    have t47 : (((s[p]'h).toNat : Int) == 47) = false := byte_ne (k := 47) (by rw [q60]; decide)
    have t40 : (((s[p]'h).toNat : Int) == 40) = false := byte_ne (k := 40) (by rw [q60]; decide)
    have t41 : (((s[p]'h).toNat : Int) == 41) = false := byte_ne (k := 41) (by rw [q60]; decide)
    have t44 : (((s[p]'h).toNat : Int) == 44) = false := byte_ne (k := 44) (by rw [q60]; decide)
    have t58 : (((s[p]'h).toNat : Int) == 58) = false := byte_ne (k := 58) (by rw [q60]; decide)
    have t62 : (((s[p]'h).toNat : Int) == 62) = false := byte_ne (k := 62) (by rw [q60]; decide)
    clear g0 g1 q60
    go_enter Tryd.func73, Tryd.ntmps73
    go_wp2_with fail
    go_ret
    exact ⟨ret_int HR.out.symm, rfl⟩
  by_cases q62 : (s[p]'h) = 62
  · have HR := Lib.hid (show markN s.data.toList p = 1 from by unfold markN; rw [g0, g1]; simp [markC, q62])
    have t43 : (((s[p]'h).toNat : Int) == 43) = false := byte_ne (k := 43) (by rw [q62]; decide)
    have t45 : (((s[p]'h).toNat : Int) == 45) = false := byte_ne (k := 45) (by rw [q62]; decide)
    have t42 : (((s[p]'h).toNat : Int) == 42) = false := byte_ne (k := 42) (by rw [q62]; decide)
    have t47 : (((s[p]'h).toNat : Int) == 47) = false := byte_ne (k := 47) (by rw [q62]; decide)
    have t40 : (((s[p]'h).toNat : Int) == 40) = false := byte_ne (k := 40) (by rw [q62]; decide)
    have t41 : (((s[p]'h).toNat : Int) == 41) = false := byte_ne (k := 41) (by rw [q62]; decide)
    have t44 : (((s[p]'h).toNat : Int) == 44) = false := byte_ne (k := 44) (by rw [q62]; decide)
    have t58 : (((s[p]'h).toNat : Int) == 58) = false := byte_ne (k := 58) (by rw [q62]; decide)
    have t60 : (((s[p]'h).toNat : Int) == 60) = false := byte_ne (k := 60) q60
    have t61 : (((s[p]'h).toNat : Int) == 61) = false := byte_ne (k := 61) (by rw [q62]; decide)
    have t62 : (((s[p]'h).toNat : Int) == 62) = true := byte_eq (k := 62) q62
    clear g0 g1 q60 q62
    go_enter Tryd.func73, Tryd.ntmps73
    go_wp2_with fail
    go_ret
    exact ⟨ret_int HR.out.symm, rfl⟩
  by_cases q43 : (s[p]'h) = 43
  · have HR := Lib.hid (show markN s.data.toList p = 1 from by unfold markN; rw [g0, g1]; simp [markC, q43])
    have t60 : (((s[p]'h).toNat : Int) == 60) = false := byte_ne (k := 60) q60
    have t62 : (((s[p]'h).toNat : Int) == 62) = false := byte_ne (k := 62) q62
    have t43 : (((s[p]'h).toNat : Int) == 43) = true := byte_eq (k := 43) q43
    clear g0 g1 q60 q62 q43
    go_enter Tryd.func73, Tryd.ntmps73
    go_wp2_with fail
    go_ret
    exact ⟨ret_int HR.out.symm, rfl⟩
  by_cases q45 : (s[p]'h) = 45
  · have HR := Lib.hid (show markN s.data.toList p = 1 from by unfold markN; rw [g0, g1]; simp [markC, q45])
    have t60 : (((s[p]'h).toNat : Int) == 60) = false := byte_ne (k := 60) q60
    have t62 : (((s[p]'h).toNat : Int) == 62) = false := byte_ne (k := 62) q62
    have t43 : (((s[p]'h).toNat : Int) == 43) = false := byte_ne (k := 43) q43
    have t45 : (((s[p]'h).toNat : Int) == 45) = true := byte_eq (k := 45) q45
    clear g0 g1 q60 q62 q43 q45
    go_enter Tryd.func73, Tryd.ntmps73
    go_wp2_with fail
    go_ret
    exact ⟨ret_int HR.out.symm, rfl⟩
  by_cases q42 : (s[p]'h) = 42
  · have HR := Lib.hid (show markN s.data.toList p = 1 from by unfold markN; rw [g0, g1]; simp [markC, q42])
    have t60 : (((s[p]'h).toNat : Int) == 60) = false := byte_ne (k := 60) q60
    have t62 : (((s[p]'h).toNat : Int) == 62) = false := byte_ne (k := 62) q62
    have t43 : (((s[p]'h).toNat : Int) == 43) = false := byte_ne (k := 43) q43
    have t45 : (((s[p]'h).toNat : Int) == 45) = false := byte_ne (k := 45) q45
    have t42 : (((s[p]'h).toNat : Int) == 42) = true := byte_eq (k := 42) q42
    clear g0 g1 q60 q62 q43 q45 q42
    go_enter Tryd.func73, Tryd.ntmps73
    go_wp2_with fail
    go_ret
    exact ⟨ret_int HR.out.symm, rfl⟩
  by_cases q47 : (s[p]'h) = 47
  · have HR := Lib.hid (show markN s.data.toList p = 1 from by unfold markN; rw [g0, g1]; simp [markC, q47])
    have t60 : (((s[p]'h).toNat : Int) == 60) = false := byte_ne (k := 60) q60
    have t62 : (((s[p]'h).toNat : Int) == 62) = false := byte_ne (k := 62) q62
    have t43 : (((s[p]'h).toNat : Int) == 43) = false := byte_ne (k := 43) q43
    have t45 : (((s[p]'h).toNat : Int) == 45) = false := byte_ne (k := 45) q45
    have t42 : (((s[p]'h).toNat : Int) == 42) = false := byte_ne (k := 42) q42
    have t47 : (((s[p]'h).toNat : Int) == 47) = true := byte_eq (k := 47) q47
    clear g0 g1 q60 q62 q43 q45 q42 q47
    go_enter Tryd.func73, Tryd.ntmps73
    go_wp2_with fail
    go_ret
    exact ⟨ret_int HR.out.symm, rfl⟩
  by_cases q40 : (s[p]'h) = 40
  · have HR := Lib.hid (show markN s.data.toList p = 1 from by unfold markN; rw [g0, g1]; simp [markC, q40])
    have t60 : (((s[p]'h).toNat : Int) == 60) = false := byte_ne (k := 60) q60
    have t62 : (((s[p]'h).toNat : Int) == 62) = false := byte_ne (k := 62) q62
    have t43 : (((s[p]'h).toNat : Int) == 43) = false := byte_ne (k := 43) q43
    have t45 : (((s[p]'h).toNat : Int) == 45) = false := byte_ne (k := 45) q45
    have t42 : (((s[p]'h).toNat : Int) == 42) = false := byte_ne (k := 42) q42
    have t47 : (((s[p]'h).toNat : Int) == 47) = false := byte_ne (k := 47) q47
    have t40 : (((s[p]'h).toNat : Int) == 40) = true := byte_eq (k := 40) q40
    clear g0 g1 q60 q62 q43 q45 q42 q47 q40
    go_enter Tryd.func73, Tryd.ntmps73
    go_wp2_with fail
    go_ret
    exact ⟨ret_int HR.out.symm, rfl⟩
  by_cases q41 : (s[p]'h) = 41
  · have HR := Lib.hid (show markN s.data.toList p = 1 from by unfold markN; rw [g0, g1]; simp [markC, q41])
    have t60 : (((s[p]'h).toNat : Int) == 60) = false := byte_ne (k := 60) q60
    have t62 : (((s[p]'h).toNat : Int) == 62) = false := byte_ne (k := 62) q62
    have t43 : (((s[p]'h).toNat : Int) == 43) = false := byte_ne (k := 43) q43
    have t45 : (((s[p]'h).toNat : Int) == 45) = false := byte_ne (k := 45) q45
    have t42 : (((s[p]'h).toNat : Int) == 42) = false := byte_ne (k := 42) q42
    have t47 : (((s[p]'h).toNat : Int) == 47) = false := byte_ne (k := 47) q47
    have t40 : (((s[p]'h).toNat : Int) == 40) = false := byte_ne (k := 40) q40
    have t41 : (((s[p]'h).toNat : Int) == 41) = true := byte_eq (k := 41) q41
    clear g0 g1 q60 q62 q43 q45 q42 q47 q40 q41
    go_enter Tryd.func73, Tryd.ntmps73
    go_wp2_with fail
    go_ret
    exact ⟨ret_int HR.out.symm, rfl⟩
  by_cases q44 : (s[p]'h) = 44
  · have HR := Lib.hid (show markN s.data.toList p = 1 from by unfold markN; rw [g0, g1]; simp [markC, q44])
    have t60 : (((s[p]'h).toNat : Int) == 60) = false := byte_ne (k := 60) q60
    have t62 : (((s[p]'h).toNat : Int) == 62) = false := byte_ne (k := 62) q62
    have t43 : (((s[p]'h).toNat : Int) == 43) = false := byte_ne (k := 43) q43
    have t45 : (((s[p]'h).toNat : Int) == 45) = false := byte_ne (k := 45) q45
    have t42 : (((s[p]'h).toNat : Int) == 42) = false := byte_ne (k := 42) q42
    have t47 : (((s[p]'h).toNat : Int) == 47) = false := byte_ne (k := 47) q47
    have t40 : (((s[p]'h).toNat : Int) == 40) = false := byte_ne (k := 40) q40
    have t41 : (((s[p]'h).toNat : Int) == 41) = false := byte_ne (k := 41) q41
    have t44 : (((s[p]'h).toNat : Int) == 44) = true := byte_eq (k := 44) q44
    clear g0 g1 q60 q62 q43 q45 q42 q47 q40 q41 q44
    go_enter Tryd.func73, Tryd.ntmps73
    go_wp2_with fail
    go_ret
    exact ⟨ret_int HR.out.symm, rfl⟩
  by_cases q58 : (s[p]'h) = 58
  · have HR := Lib.hid (show markN s.data.toList p = 1 from by unfold markN; rw [g0, g1]; simp [markC, q58])
    have t60 : (((s[p]'h).toNat : Int) == 60) = false := byte_ne (k := 60) q60
    have t62 : (((s[p]'h).toNat : Int) == 62) = false := byte_ne (k := 62) q62
    have t43 : (((s[p]'h).toNat : Int) == 43) = false := byte_ne (k := 43) q43
    have t45 : (((s[p]'h).toNat : Int) == 45) = false := byte_ne (k := 45) q45
    have t42 : (((s[p]'h).toNat : Int) == 42) = false := byte_ne (k := 42) q42
    have t47 : (((s[p]'h).toNat : Int) == 47) = false := byte_ne (k := 47) q47
    have t40 : (((s[p]'h).toNat : Int) == 40) = false := byte_ne (k := 40) q40
    have t41 : (((s[p]'h).toNat : Int) == 41) = false := byte_ne (k := 41) q41
    have t44 : (((s[p]'h).toNat : Int) == 44) = false := byte_ne (k := 44) q44
    have t58 : (((s[p]'h).toNat : Int) == 58) = true := byte_eq (k := 58) q58
    clear g0 g1 q60 q62 q43 q45 q42 q47 q40 q41 q44 q58
    go_enter Tryd.func73, Tryd.ntmps73
    go_wp2_with fail
    go_ret
    exact ⟨ret_int HR.out.symm, rfl⟩
  by_cases q61 : (s[p]'h) = 61
  · have HR := Lib.hid (show markN s.data.toList p = 1 from by unfold markN; rw [g0, g1]; simp [markC, q61])
    have t60 : (((s[p]'h).toNat : Int) == 60) = false := byte_ne (k := 60) q60
    have t62 : (((s[p]'h).toNat : Int) == 62) = false := byte_ne (k := 62) q62
    have t43 : (((s[p]'h).toNat : Int) == 43) = false := byte_ne (k := 43) q43
    have t45 : (((s[p]'h).toNat : Int) == 45) = false := byte_ne (k := 45) q45
    have t42 : (((s[p]'h).toNat : Int) == 42) = false := byte_ne (k := 42) q42
    have t47 : (((s[p]'h).toNat : Int) == 47) = false := byte_ne (k := 47) q47
    have t40 : (((s[p]'h).toNat : Int) == 40) = false := byte_ne (k := 40) q40
    have t41 : (((s[p]'h).toNat : Int) == 41) = false := byte_ne (k := 41) q41
    have t44 : (((s[p]'h).toNat : Int) == 44) = false := byte_ne (k := 44) q44
    have t58 : (((s[p]'h).toNat : Int) == 58) = false := byte_ne (k := 58) q58
    have t61 : (((s[p]'h).toNat : Int) == 61) = true := byte_eq (k := 61) q61
    clear g0 g1 q60 q62 q43 q45 q42 q47 q40 q41 q44 q58 q61
    go_enter Tryd.func73, Tryd.ntmps73
    go_wp2_with fail
    go_ret
    exact ⟨ret_int HR.out.symm, rfl⟩
  have HR := Lib.hid (show markN s.data.toList p = 0 from by unfold markN; rw [g0, g1]; simp [markC, q60, q62, q43, q45, q42, q47, q40, q41, q44, q58, q61])
  have t60 : (((s[p]'h).toNat : Int) == 60) = false := byte_ne (k := 60) q60
  have t62 : (((s[p]'h).toNat : Int) == 62) = false := byte_ne (k := 62) q62
  have t43 : (((s[p]'h).toNat : Int) == 43) = false := byte_ne (k := 43) q43
  have t45 : (((s[p]'h).toNat : Int) == 45) = false := byte_ne (k := 45) q45
  have t42 : (((s[p]'h).toNat : Int) == 42) = false := byte_ne (k := 42) q42
  have t47 : (((s[p]'h).toNat : Int) == 47) = false := byte_ne (k := 47) q47
  have t40 : (((s[p]'h).toNat : Int) == 40) = false := byte_ne (k := 40) q40
  have t41 : (((s[p]'h).toNat : Int) == 41) = false := byte_ne (k := 41) q41
  have t44 : (((s[p]'h).toNat : Int) == 44) = false := byte_ne (k := 44) q44
  have t58 : (((s[p]'h).toNat : Int) == 58) = false := byte_ne (k := 58) q58
  have t61 : (((s[p]'h).toNat : Int) == 61) = false := byte_ne (k := 61) q61
  clear g0 g1 q60 q62 q43 q45 q42 q47 q40 q41 q44 q58 q61
  go_enter Tryd.func73, Tryd.ntmps73
  go_wp2_with fail
  go_ret
  exact ⟨ret_int HR.out.symm, rfl⟩

theorem lmark_any (s : ByteArray) (hs : s.size ≤ 9223372036854775807) (p : Nat) (h : p < s.size) (w : World) :
    Calls Tryd.prog 73 #[.string s, .int .i64 (p : Int)] w fun e w' => e = .returned (.int .i64 (markN s.data.toList p)) ∧ w = w' := by
  by_cases hp : p + 1 < s.size
  · exact lmark_two s hs p h hp w
  · exact lmark_last s hs p h hp w
end Go.Proofs.YthaoalmhhgllmaaDoor
namespace Go.Proofs.YthaoalmhhgllmaaDoor
open Go.RowKit
def textAt (i : Nat) : List UInt8 := placeText (atC i) (atR i)
def findP (l : List UInt8) : Option Nat := (List.range 1024).find? fun i => textAt i == l
def prC (l : List UInt8) : Int := if formedB l = true then match findP l with | some i => atC i | none => 0 else 0
def prR (l : List UInt8) : Int := if formedB l = true then match findP l with | some i => atR i | none => 0 else 0
def prE (l : List UInt8) : Int := if formedB l = true then match findP l with | some _ => 0 | none => 4 else 2
theorem find_some {l : List UInt8} {i : Nat} (hi : i < 1024) (h : textAt i = l) (hb : ∀ j, j < i → textAt j ≠ l) : findP l = some i := by
  unfold findP
  rw [List.find?_range_eq_some]
  refine ⟨by simpa using h, by simpa using hi, fun j hj => by simpa using hb j hj⟩
theorem find_none {l : List UInt8} (hb : ∀ j, j < 1024 → textAt j ≠ l) : findP l = none := by
  unfold findP
  rw [List.find?_eq_none]
  intro j hj
  have := hb j (by simpa using hj)
  simpa using this

def leftP (v : Value) : Nat := 1024 - (intOf v).toNat
set_option maxHeartbeats 1000000 in
set_option maxRecDepth 10000 in
theorem rparse2_any (s : ByteArray) (hs : s.size ≤ 9223372036854775807) (w : World) :
    Calls Tryd.prog 71 #[.string s] w fun e w' => e = .returned (.tuple #[.agg #[.int .i64 (prC s.data.toList), .int .i64 (prR s.data.toList)], .int .i64 (prE s.data.toList)]) ∧ Below w.heap.size w w' := by
  have HF := Lib.hid (rformed_any s hs)
  cases hf : formedB s.data.toList with
  | false =>
    have e1 := Lib.hid (show prC s.data.toList = 0 from if_neg (by rw [hf]; decide))
    have e2 := Lib.hid (show prR s.data.toList = 0 from if_neg (by rw [hf]; decide))
    have e3 := Lib.hid (show prE s.data.toList = 2 from if_neg (by rw [hf]; decide))
    rw [hf] at HF
    clear hf
    go_enter Tryd.func71, Tryd.ntmps71
    go_wp2_with fail
    refine (HF.out _).mono ?_; rintro e w1 ⟨rfl, rfl⟩
    go_wp2_with fail
    exact bodyPost_ret (v := .tuple #[.agg #[.int .i64 0, .int .i64 0], .int .i64 2]) (by simp [results, Tryd.results71, go_sem]) rfl
      ⟨by rw [e1.out, e2.out, e3.out], (Below.refl _ _).alloc (Nat.le_refl _) _⟩
  | true =>
    have Hf := Lib.hid hf
    rw [hf] at HF
    clear hf
    go_enter Tryd.func71, Tryd.ntmps71
    go_wp2_with fail
    refine (HF.out _).mono ?_; rintro e w1 ⟨rfl, rfl⟩
    go_wp2_with fail
    go_loopw [5] (fun v wr => ∃ i : Nat, i ≤ 1024 ∧ v = .int .i64 i ∧ Hid (∀ j, j < i → textAt j ≠ s.data.toList) ∧ Below (w.heap.size + 1) (w.alloc (.cells #[.int .i64 0, .int .i64 0] 24)) wr) (fun v _ => leftP v)
    case atStart => exact ⟨0, by omega, rfl, Lib.hid fun j hj => by omega, Below.refl _ _⟩
    case round =>
      obtain ⟨i, hi, rfl, HU, hb⟩ := hrel
      have k0 : wr.cell? ⟨w.heap.size, 0, none⟩ = some (.int .i64 0) := by rw [hb.cell (by simp)]; simp
      have k1 : wr.cell? ⟨w.heap.size, 1, none⟩ = some (.int .i64 0) := by rw [hb.cell (by simp)]; simp
      have f0 : wr.frozen? ⟨w.heap.size, 0, none⟩ = false := by rw [hb.frozen (by simp)]; simp
      have f1 : wr.frozen? ⟨w.heap.size, 1, none⟩ = false := by rw [hb.frozen (by simp)]; simp
      have z0 : w.heap.size < wr.heap.size := by have := hb.size; simp at this; omega
      have b0 : Below w.heap.size w wr := ((Below.refl _ _).alloc (Nat.le_refl _) _).trans (hb.mono (by omega))
      by_cases hlt : i < 1024
      · by_cases he : textAt i = s.data.toList
        · have ht : (placeText (atC i) (atR i) == s.toList) = true := by rw [ByteArray.toList_eq]; simpa [textAt] using he
          have hfd := find_some hlt he HU.out
          have e1 := Lib.hid (show prC s.data.toList = atC i from by unfold prC; rw [if_pos Hf.out, hfd])
          have e2 := Lib.hid (show prR s.data.toList = atR i from by unfold prR; rw [if_pos Hf.out, hfd])
          have e3 := Lib.hid (show prE s.data.toList = 0 from by unfold prE; rw [if_pos Hf.out, hfd])
          clear hfd he
          go_wp2_with fail
          refine (rat_any _ _).mono ?_; rintro e w2 ⟨rfl, b2⟩
          have q0 := keep_cell b2 k0
          have q1 := keep_cell b2 k1
          have p0 := keep_frozen b2 (by simpa using z0) f0
          have p1 := keep_frozen b2 (by simpa using z0) f1
          have z2 : w.heap.size < w2.heap.size := by have := b2.size; omega
          clear k0 k1 f0 f1
          go_wp2_with fail
          refine (rtext2_any _ _ _).mono ?_; rintro e w3 ⟨rfl, b3⟩
          have m0 := keep_fresh b3 0 (v := .int .i64 (atC i)) rfl
          have m1 := keep_fresh b3 1 (v := .int .i64 (atR i)) rfl
          have n0 := keep_cell b3 (p := ⟨w.heap.size, 0, none⟩) (v := .int .i64 0) (by simp [go_sem, z2, q0])
          have n1 := keep_cell b3 (p := ⟨w.heap.size, 1, none⟩) (v := .int .i64 0) (by simp [go_sem, z2, q1])
          have g0 := keep_frozen b3 (p := ⟨w.heap.size, 0, none⟩) (by simp; omega) (by simp [go_sem, z2, p0])
          have g1 := keep_frozen b3 (p := ⟨w.heap.size, 1, none⟩) (by simp; omega) (by simp [go_sem, z2, p1])
          have h2 := b0.trans (b2.mono (by omega))
          have h3 : Below w.heap.size w w3 := (h2.alloc (by omega) _).trans (b3.mono (by simp; omega))
          clear q0 q1 p0 p1 b2 b3
          go_wp2_with fail
          exact bodyPost_ret (v := .tuple #[.agg #[.int .i64 (atC i), .int .i64 (atR i)], .int .i64 0]) (by simp [results, Tryd.results71, go_sem, n0, n1]) rfl
            ⟨by rw [e1.out, e2.out, e3.out], (h3.setCell (by simp) _).setCell (by simp) _⟩
        · have ht : (placeText (atC i) (atR i) == s.toList) = false := by rw [ByteArray.toList_eq]; simpa [textAt] using he
          have HU' : Hid (∀ j, j < i + 1 → textAt j ≠ s.data.toList) := Lib.hid fun j hj => by
            by_cases e : j = i
            · subst e; exact he
            · exact HU.out j (by omega)
          clear he
          go_wp2_with fail
          refine (rat_any _ _).mono ?_; rintro e w2 ⟨rfl, b2⟩
          have h2 := hb.trans (b2.mono (by omega))
          go_wp2_with fail
          refine (rtext2_any _ _ _).mono ?_; rintro e w3 ⟨rfl, b3⟩
          have z2 : w.heap.size + 1 ≤ w2.heap.size := by have := b2.size; omega
          have h3 : Below (w.heap.size + 1) (w.alloc (.cells #[.int .i64 0, .int .i64 0] 24)) w3 := (h2.alloc z2 _).trans (b3.mono (by simp; omega))
          clear k0 k1 f0 f1 b2 b3
          go_wp2_with fail
          go_roundw
          case rel => exact ⟨i + 1, by omega, by go_num, HU', h3⟩
          case measure => simp [leftP, intOf]; omega
      · have hfd := find_none (l := s.data.toList) fun j hj => HU.out j (by omega)
        have e1 := Lib.hid (show prC s.data.toList = 0 from by unfold prC; rw [if_pos Hf.out, hfd])
        have e2 := Lib.hid (show prR s.data.toList = 0 from by unfold prR; rw [if_pos Hf.out, hfd])
        have e3 := Lib.hid (show prE s.data.toList = 4 from by unfold prE; rw [if_pos Hf.out, hfd])
        clear hfd
        go_wp2_with fail
        exact bodyPost_ret (v := .tuple #[.agg #[.int .i64 0, .int .i64 0], .int .i64 4]) (by simp [results, Tryd.results71, go_sem, k0, k1]) rfl
          ⟨by rw [e1.out, e2.out, e3.out], (b0.setCell (by simp) _).setCell (by simp) _⟩
end Go.Proofs.YthaoalmhhgllmaaDoor
namespace Go.Proofs.YthaoalmhhgllmaaDoor
open Go.RowKit
structure Tok where
  kind : Int
  num : Int
  col : Int
  row : Int
  text : List UInt8
  frm : Nat
def runLen (f : UInt8 → Bool) (l : List UInt8) (p : Nat) : Nat := ((l.drop p).takeWhile f).length
def subL (l : List UInt8) (p n : Nat) : List UInt8 := (l.drop p).take n
def oneT (l : List UInt8) (p : Nat) : Option (Tok × Nat) :=
  if isFig (l.getD p 0) = true then
    match numV (subL l p (runLen isFig l p)) with
    | some u => some (⟨1, (u : Int), 0, 0, [], p⟩, runLen isFig l p)
    | none => none
  else if 65 ≤ (l.getD p 0).toNat ∧ (l.getD p 0).toNat ≤ 90 then
    if wordB (subL l p (runLen isNam l p)) = true then some (⟨4, 0, 0, 0, subL l p (runLen isNam l p), p⟩, runLen isNam l p)
    else if prE (subL l p (runLen isNam l p)) = 0 then some (⟨2, 0, prC (subL l p (runLen isNam l p)), prR (subL l p (runLen isNam l p)), [], p⟩, runLen isNam l p)
    else if prE (subL l p (runLen isNam l p)) = 4 then some (⟨3, 0, 0, 0, [], p⟩, runLen isNam l p) else none
  else if subL l p 4 = [35, 82, 69, 70] then some (⟨3, 0, 0, 0, [], p⟩, 4)
  else if markN l p = 0 then none else some (⟨5, 0, 0, 0, subL l p (markN l p).toNat, p⟩, (markN l p).toNat)
def tokC (t : Tok) : Array Value := #[.int .i64 t.kind, .int .i64 t.num, .int .i64 t.col, .int .i64 t.row, .string ⟨t.text.toArray⟩, .int .i64 (t.frm : Int)]
def oneV (o : Option (Tok × Nat)) : Value := match o with
  | some (t, n) => .tuple #[.agg (tokC t), .int .i64 (n : Int)]
  | none => .tuple #[.agg #[.int .i64 0, .int .i64 0, .int .i64 0, .int .i64 0, .string ⟨#[]⟩, .int .i64 0], .int .i64 0]
theorem run_is {f : UInt8 → Bool} {l : List UInt8} : ∀ {n p : Nat}, (∀ j, j < n → f (l.getD (p + j) 0) = true) → p + n ≤ l.length → (p + n = l.length ∨ f (l.getD (p + n) 0) = false) → runLen f l p = n
  | 0, p, _, h2, h3 => by
    unfold runLen
    by_cases hp : p < l.length
    · have e : l.drop p = l[p] :: l.drop (p + 1) := List.drop_eq_getElem_cons hp
      have hf : f l[p] = false := by
        rcases h3 with h3 | h3
        · omega
        · simpa [List.getD_eq_getElem?_getD, hp] using h3
      rw [e, List.takeWhile_cons, hf]
      rfl
    · rw [List.drop_eq_nil_of_le (by omega)]; rfl
  | n + 1, p, h1, h2, h3 => by
    have hp : p < l.length := by omega
    have e : l.drop p = l[p] :: l.drop (p + 1) := List.drop_eq_getElem_cons hp
    have hf : f l[p] = true := by
      have := h1 0 (by omega)
      simpa [List.getD_eq_getElem?_getD, hp] using this
    have ih := run_is (f := f) (l := l) (n := n) (p := p + 1) (fun j hj => by
      have := h1 (j + 1) (by omega)
      rwa [show p + (j + 1) = p + 1 + j from by omega] at this) (by omega) (by rwa [show p + 1 + n = p + (n + 1) from by omega])
    unfold runLen at ih ⊢
    rw [e, List.takeWhile_cons, hf]
    simp [ih]
theorem extract_sub (s : ByteArray) (p n : Nat) : (s.extract p (p + n)).data.toList = subL s.data.toList p n := by
  unfold subL
  simp [ByteArray.data_extract]
theorem sub_len {l : List UInt8} {p n : Nat} (h : p + n ≤ l.length) : (subL l p n).length = n := by
  unfold subL; simp; omega
theorem sub_getD {l : List UInt8} {p n i : Nat} (hi : i < n) : (subL l p n).getD i 0 = l.getD (p + i) 0 := by
  unfold subL
  simp [List.getD_eq_getElem?_getD, hi]
theorem extract_size (s : ByteArray) (p n : Nat) (h : p + n ≤ s.size) : (s.extract p (p + n)).size = n := by
  rw [← len_of, extract_sub, sub_len (by rw [len_of]; exact h)]
theorem fig_sub (s : ByteArray) (p n : Nat) (hU : ∀ j, j < n → isFig (s.data.toList.getD (p + j) 0) = true) (hn : p + n ≤ s.size) (i : Nat) (h : i < (s.extract p (p + n)).size) : isFig ((s.extract p (p + n))[i]'h) = true := by
  have hi : i < n := by rw [extract_size s p n hn] at h; exact h
  rw [← byte_getD (s.extract p (p + n)) i h, extract_sub, sub_getD hi]
  exact hU i hi
theorem extract_string (s : ByteArray) (p n : Nat) : s.extract p (p + n) = ⟨(subL s.data.toList p n).toArray⟩ := by
  rw [← extract_sub]

set_option maxHeartbeats 1000000 in
theorem lone_fig (s : ByteArray) (hs : s.size ≤ 4611686018427387903) (p : Nat) (h : p < s.size) (hf : isFig (s[p]'h) = true) (w : World) :
    Calls Tryd.prog 45 #[.string s, .int .i64 (p : Int)] w fun e w' => e = .returned (oneV (oneT s.data.toList p)) ∧ Below w.heap.size w w' := by
  have H1 := Lib.hid (lfigure_any (s[p]'h))
  rw [hf] at H1
  have g0 := byte_getD s p h
  have HF := Lib.hid hf
  clear hf
  go_enter Tryd.func45, Tryd.ntmps45
  go_wp2_with fail
  refine (H1.out _).mono ?_; rintro e w1 ⟨rfl, rfl⟩
  go_wp2_with fail
  go_loop [6] (fun v => ∃ n : Nat, p + n ≤ s.size ∧ v = .int .i64 n ∧ Hid (∀ j, j < n → isFig (s.data.toList.getD (p + j) 0) = true)) (fun v => s.size - p - (intOf v).toNat)
  case atStart => exact ⟨0, by omega, rfl, Lib.hid fun j hj => by omega⟩
  case round =>
    obtain ⟨n, hn, rfl, HU⟩ := hrel
    by_cases hlt : p + n < s.size
    · have gn := byte_getD s (p + n) hlt
      by_cases hd : 48 ≤ (s[p + n]'hlt).toNat ∧ (s[p + n]'hlt).toNat ≤ 57
      · have HU' : Hid (∀ j, j < n + 1 → isFig (s.data.toList.getD (p + j) 0) = true) := Lib.hid fun j hj => by
          by_cases e : j = n
          · subst e; rw [gn]; exact decide_eq_true hd
          · exact HU.out j (by omega)
        obtain ⟨d1, d2⟩ := hd
        clear gn
        go_wp2_with fail
        go_round
        case rel => exact ⟨n + 1, by omega, by go_num, HU'⟩
        case measure => simp [intOf]; omega
      · have hR : runLen isFig s.data.toList p = n := run_is HU.out (by rw [len_of]; omega) (.inr (by rw [gn]; exact decide_eq_false hd))
        by_cases d1 : (s[p + n]'hlt).toNat < 48
        · clear hd
          have hO : oneT s.data.toList p = (match numV (subL s.data.toList p n) with | some u => some (⟨1, (u : Int), 0, 0, [], p⟩, n) | none => none) := by
            unfold oneT
            rw [if_pos (by rw [g0]; exact HF.out), hR]
          have hN := lnumber_any (s.extract p (p + n)) (by rw [extract_size s p n hn]; omega) (fig_sub s p n HU.out hn)
          rw [extract_sub] at hN
          have HN := Lib.hid hN
          clear hN hR gn
          cases hv : numV (subL s.data.toList p n) with
          | none =>
            rw [hv] at hO HN
            have HO := Lib.hid (show oneV (oneT s.data.toList p) = .tuple #[.agg #[.int .i64 0, .int .i64 0, .int .i64 0, .int .i64 0, .string ⟨#[]⟩, .int .i64 0], .int .i64 0] from by rw [hO]; rfl)
            clear hO hv
            go_wp2_with fail
            refine (HN.out _).mono ?_; rintro e w2 ⟨rfl, rfl⟩
            go_wp2_with fail
            exact bodyPost_ret (v := .tuple #[.agg #[.int .i64 0, .int .i64 0, .int .i64 0, .int .i64 0, .string ⟨#[]⟩, .int .i64 0], .int .i64 0]) (by simp [results, Tryd.results45, go_sem]) rfl ⟨by rw [HO.out], ((Below.refl _ _).alloc (Nat.le_refl _) _)⟩
          | some u =>
            have hM : numN (subL s.data.toList p n) = (u : Int) := by unfold numN; rw [hv]
            rw [hv] at hO HN
            rw [hM] at HN
            have HO := Lib.hid (show oneV (oneT s.data.toList p) = .tuple #[.agg #[.int .i64 1, .int .i64 (u : Int), .int .i64 0, .int .i64 0, .string ⟨#[]⟩, .int .i64 (p : Int)], .int .i64 (n : Int)] from by rw [hO]; rfl)
            clear hO hM hv
            go_wp2_with fail
            refine (HN.out _).mono ?_; rintro e w2 ⟨rfl, rfl⟩
            go_wp2_with fail
            exact bodyPost_ret (v := .tuple #[.agg #[.int .i64 1, .int .i64 (u : Int), .int .i64 0, .int .i64 0, .string ⟨#[]⟩, .int .i64 (p : Int)], .int .i64 (n : Int)]) (by simp [results, Tryd.results45, go_sem]) rfl ⟨by rw [HO.out], ((Below.refl _ _).alloc (Nat.le_refl _) _)⟩
        · have d2 : 57 < (s[p + n]'hlt).toNat := by omega
          have d3 : 48 ≤ (s[p + n]'hlt).toNat := by omega
          clear hd d1
          have hO : oneT s.data.toList p = (match numV (subL s.data.toList p n) with | some u => some (⟨1, (u : Int), 0, 0, [], p⟩, n) | none => none) := by
            unfold oneT
            rw [if_pos (by rw [g0]; exact HF.out), hR]
          have hN := lnumber_any (s.extract p (p + n)) (by rw [extract_size s p n hn]; omega) (fig_sub s p n HU.out hn)
          rw [extract_sub] at hN
          have HN := Lib.hid hN
          clear hN hR gn
          cases hv : numV (subL s.data.toList p n) with
          | none =>
            rw [hv] at hO HN
            have HO := Lib.hid (show oneV (oneT s.data.toList p) = .tuple #[.agg #[.int .i64 0, .int .i64 0, .int .i64 0, .int .i64 0, .string ⟨#[]⟩, .int .i64 0], .int .i64 0] from by rw [hO]; rfl)
            clear hO hv
            go_wp2_with fail
            refine (HN.out _).mono ?_; rintro e w2 ⟨rfl, rfl⟩
            go_wp2_with fail
            exact bodyPost_ret (v := .tuple #[.agg #[.int .i64 0, .int .i64 0, .int .i64 0, .int .i64 0, .string ⟨#[]⟩, .int .i64 0], .int .i64 0]) (by simp [results, Tryd.results45, go_sem]) rfl ⟨by rw [HO.out], ((Below.refl _ _).alloc (Nat.le_refl _) _)⟩
          | some u =>
            have hM : numN (subL s.data.toList p n) = (u : Int) := by unfold numN; rw [hv]
            rw [hv] at hO HN
            rw [hM] at HN
            have HO := Lib.hid (show oneV (oneT s.data.toList p) = .tuple #[.agg #[.int .i64 1, .int .i64 (u : Int), .int .i64 0, .int .i64 0, .string ⟨#[]⟩, .int .i64 (p : Int)], .int .i64 (n : Int)] from by rw [hO]; rfl)
            clear hO hM hv
            go_wp2_with fail
            refine (HN.out _).mono ?_; rintro e w2 ⟨rfl, rfl⟩
            go_wp2_with fail
            exact bodyPost_ret (v := .tuple #[.agg #[.int .i64 1, .int .i64 (u : Int), .int .i64 0, .int .i64 0, .string ⟨#[]⟩, .int .i64 (p : Int)], .int .i64 (n : Int)]) (by simp [results, Tryd.results45, go_sem]) rfl ⟨by rw [HO.out], ((Below.refl _ _).alloc (Nat.le_refl _) _)⟩
    · have hR : runLen isFig s.data.toList p = n := run_is HU.out (by rw [len_of]; omega) (.inl (by rw [len_of]; omega))
      have hO : oneT s.data.toList p = (match numV (subL s.data.toList p n) with | some u => some (⟨1, (u : Int), 0, 0, [], p⟩, n) | none => none) := by
        unfold oneT
        rw [if_pos (by rw [g0]; exact HF.out), hR]
      have hN := lnumber_any (s.extract p (p + n)) (by rw [extract_size s p n hn]; omega) (fig_sub s p n HU.out hn)
      rw [extract_sub] at hN
      have HN := Lib.hid hN
      clear hN hR 
      cases hv : numV (subL s.data.toList p n) with
      | none =>
        rw [hv] at hO HN
        have HO := Lib.hid (show oneV (oneT s.data.toList p) = .tuple #[.agg #[.int .i64 0, .int .i64 0, .int .i64 0, .int .i64 0, .string ⟨#[]⟩, .int .i64 0], .int .i64 0] from by rw [hO]; rfl)
        clear hO hv
        go_wp2_with fail
        refine (HN.out _).mono ?_; rintro e w2 ⟨rfl, rfl⟩
        go_wp2_with fail
        exact bodyPost_ret (v := .tuple #[.agg #[.int .i64 0, .int .i64 0, .int .i64 0, .int .i64 0, .string ⟨#[]⟩, .int .i64 0], .int .i64 0]) (by simp [results, Tryd.results45, go_sem]) rfl ⟨by rw [HO.out], ((Below.refl _ _).alloc (Nat.le_refl _) _)⟩
      | some u =>
        have hM : numN (subL s.data.toList p n) = (u : Int) := by unfold numN; rw [hv]
        rw [hv] at hO HN
        rw [hM] at HN
        have HO := Lib.hid (show oneV (oneT s.data.toList p) = .tuple #[.agg #[.int .i64 1, .int .i64 (u : Int), .int .i64 0, .int .i64 0, .string ⟨#[]⟩, .int .i64 (p : Int)], .int .i64 (n : Int)] from by rw [hO]; rfl)
        clear hO hM hv
        go_wp2_with fail
        refine (HN.out _).mono ?_; rintro e w2 ⟨rfl, rfl⟩
        go_wp2_with fail
        exact bodyPost_ret (v := .tuple #[.agg #[.int .i64 1, .int .i64 (u : Int), .int .i64 0, .int .i64 0, .string ⟨#[]⟩, .int .i64 (p : Int)], .int .i64 (n : Int)]) (by simp [results, Tryd.results45, go_sem]) rfl ⟨by rw [HO.out], ((Below.refl _ _).alloc (Nat.le_refl _) _)⟩
end Go.Proofs.YthaoalmhhgllmaaDoor
