/- Texts joined: LxC, RefE. -/
import Derived.Test.YteflmfifhmlpiaaDoorMa01
import Derived.Test.YteflmfifhmlpiaaDoorMa02
set_option linter.all false
set_option linter.unusedVariables false
set_option linter.unusedSimpArgs false
namespace Go.Proofs.YteflmfifhmlpiaaDoor
open Go.RowKit

def markC (c d : UInt8) : Int :=
  if c = 60 ∧ (d = 61 ∨ d = 62) ∨ c = 62 ∧ d = 61 then 2
  else if c = 43 ∨ c = 45 ∨ c = 42 ∨ c = 47 ∨ c = 40 ∨ c = 41 ∨ c = 44 ∨ c = 58 ∨ c = 60 ∨ c = 61 ∨ c = 62 then 1 else 0
def markN (l : List UInt8) (p : Nat) : Int := markC (l.getD p 0) (l.getD (p + 1) 0)
theorem byte_ne {c k : UInt8} (h : ¬ c = k) : ((c.toNat : Int) == (k.toNat : Int)) = false := by
  rw [beq_eq_false_iff_ne]
  intro e
  exact h (UInt8.toNat_inj.1 (by omega))
theorem byte_eq {c k : UInt8} (h : c = k) : ((c.toNat : Int) == (k.toNat : Int)) = true := by rw [h]; simp
theorem byte_past (s : ByteArray) (i : Nat) (h : ¬ i < s.size) : s.data.toList.getD i 0 = 0 := by
  rw [List.getD_eq_getElem?_getD, List.getElem?_eq_none (by rw [len_of]; omega)]; rfl

set_option maxHeartbeats 2000000 in
theorem lmark_two (s : ByteArray) (hs : s.size ≤ 9223372036854775807) (p : Nat) (h : p < s.size) (hp : p + 1 < s.size) (w : World) :
    Calls Tryd.prog 75 #[.string s, .int .i64 (p : Int)] w fun e w' => e = .returned (.int .i64 (markN s.data.toList p)) ∧ w = w' := by
  have g0 := byte_getD s p h
  have g1 := byte_getD s (p + 1) hp
  by_cases q60 : (s[p]'h) = 60
  · by_cases d61 : (s[p + 1]'hp) = 61
    · have HR := Lib.hid (show markN s.data.toList p = 2 from by unfold markN; rw [g0, g1]; simp [markC, q60, d61])
      have t60 : (((s[p]'h).toNat : Int) == 60) = true := byte_eq (k := 60) q60
      have u61 : (((s[p + 1]'hp).toNat : Int) == 61) = true := byte_eq (k := 61) d61
      clear g0 g1 q60 d61
      go_enter Tryd.func75, Tryd.ntmps75
      go_wp2_with fail
      go_ret
      exact ⟨ret_int HR.out.symm, rfl⟩
    by_cases d62 : (s[p + 1]'hp) = 62
    · have HR := Lib.hid (show markN s.data.toList p = 2 from by unfold markN; rw [g0, g1]; simp [markC, q60, d62])
      have t60 : (((s[p]'h).toNat : Int) == 60) = true := byte_eq (k := 60) q60
      have u61 : (((s[p + 1]'hp).toNat : Int) == 61) = false := byte_ne (k := 61) d61
      have u62 : (((s[p + 1]'hp).toNat : Int) == 62) = true := byte_eq (k := 62) d62
      clear g0 g1 q60 d61 d62
      go_enter Tryd.func75, Tryd.ntmps75
      go_wp2_with fail
      go_ret
      exact ⟨ret_int HR.out.symm, rfl⟩
    have HR := Lib.hid (show markN s.data.toList p = 1 from by unfold markN; rw [g0, g1]; simp [markC, q60, d61, d62])
    have t60 : (((s[p]'h).toNat : Int) == 60) = true := byte_eq (k := 60) q60
    have t43 : (((s[p]'h).toNat : Int) == 43) = false := byte_ne (k := 43) (by rw [q60]; decide)
    have t45 : (((s[p]'h).toNat : Int) == 45) = false := byte_ne (k := 45) (by rw [q60]; decide)
    have t42 : (((s[p]'h).toNat : Int) == 42) = false := byte_ne (k := 42) (by rw [q60]; decide)
    have t47 : (((s[p]'h).toNat : Int) == 47) = false := byte_ne (k := 47) (by rw [q60]; decide)
    have t40 : (((s[p]'h).toNat : Int) == 40) = false := byte_ne (k := 40) (by rw [q60]; decide)
    have t41 : (((s[p]'h).toNat : Int) == 41) = false := byte_ne (k := 41) (by rw [q60]; decide)
    have t44 : (((s[p]'h).toNat : Int) == 44) = false := byte_ne (k := 44) (by rw [q60]; decide)
    have t58 : (((s[p]'h).toNat : Int) == 58) = false := byte_ne (k := 58) (by rw [q60]; decide)
    have t62 : (((s[p]'h).toNat : Int) == 62) = false := byte_ne (k := 62) (by rw [q60]; decide)
    have u61 : (((s[p + 1]'hp).toNat : Int) == 61) = false := byte_ne (k := 61) d61
    have u62 : (((s[p + 1]'hp).toNat : Int) == 62) = false := byte_ne (k := 62) d62
    clear g0 g1 q60 d61 d62
    go_enter Tryd.func75, Tryd.ntmps75
    go_wp2_with fail
    go_ret
    exact ⟨ret_int HR.out.symm, rfl⟩
  by_cases q62 : (s[p]'h) = 62
  · by_cases d61 : (s[p + 1]'hp) = 61
    · have HR := Lib.hid (show markN s.data.toList p = 2 from by unfold markN; rw [g0, g1]; simp [markC, q62, d61])
      have t60 : (((s[p]'h).toNat : Int) == 60) = false := byte_ne (k := 60) q60
      have t62 : (((s[p]'h).toNat : Int) == 62) = true := byte_eq (k := 62) q62
      have u61 : (((s[p + 1]'hp).toNat : Int) == 61) = true := byte_eq (k := 61) d61
      clear g0 g1 q60 q62 d61
      go_enter Tryd.func75, Tryd.ntmps75
      go_wp2_with fail
      go_ret
      exact ⟨ret_int HR.out.symm, rfl⟩
    have HR := Lib.hid (show markN s.data.toList p = 1 from by unfold markN; rw [g0, g1]; simp [markC, q62, d61])
    have t43 : (((s[p]'h).toNat : Int) == 43) = false := byte_ne (k := 43) (by rw [q62]; decide)
    have t45 : (((s[p]'h).toNat : Int) == 45) = false := byte_ne (k := 45) (by rw [q62]; decide)
    have t42 : (((s[p]'h).toNat : Int) == 42) = false := byte_ne (k := 42) (by rw [q62]; decide)
    have t47 : (((s[p]'h).toNat : Int) == 47) = false := byte_ne (k := 47) (by rw [q62]; decide)
    have t40 : (((s[p]'h).toNat : Int) == 40) = false := byte_ne (k := 40) (by rw [q62]; decide)
    have t41 : (((s[p]'h).toNat : Int) == 41) = false := byte_ne (k := 41) (by rw [q62]; decide)
    have t44 : (((s[p]'h).toNat : Int) == 44) = false := byte_ne (k := 44) (by rw [q62]; decide)
    have t58 : (((s[p]'h).toNat : Int) == 58) = false := byte_ne (k := 58) (by rw [q62]; decide)
    have t60 : (((s[p]'h).toNat : Int) == 60) = false := byte_ne (k := 60) q60
    have t61 : (((s[p]'h).toNat : Int) == 61) = false := byte_ne (k := 61) (by rw [q62]; decide)
    have t62 : (((s[p]'h).toNat : Int) == 62) = true := byte_eq (k := 62) q62
    have u61 : (((s[p + 1]'hp).toNat : Int) == 61) = false := byte_ne (k := 61) d61
    clear g0 g1 q60 q62 d61
    go_enter Tryd.func75, Tryd.ntmps75
    go_wp2_with fail
    go_ret
    exact ⟨ret_int HR.out.symm, rfl⟩
  by_cases q43 : (s[p]'h) = 43
  · have HR := Lib.hid (show markN s.data.toList p = 1 from by unfold markN; rw [g0, g1]; simp [markC, q43])
    have t60 : (((s[p]'h).toNat : Int) == 60) = false := byte_ne (k := 60) q60
    have t62 : (((s[p]'h).toNat : Int) == 62) = false := byte_ne (k := 62) q62
    have t43 : (((s[p]'h).toNat : Int) == 43) = true := byte_eq (k := 43) q43
    clear g0 g1 q60 q62 q43
    go_enter Tryd.func75, Tryd.ntmps75
    go_wp2_with fail
    go_ret
    exact ⟨ret_int HR.out.symm, rfl⟩
  by_cases q45 : (s[p]'h) = 45
  · have HR := Lib.hid (show markN s.data.toList p = 1 from by unfold markN; rw [g0, g1]; simp [markC, q45])
    have t60 : (((s[p]'h).toNat : Int) == 60) = false := byte_ne (k := 60) q60
    have t62 : (((s[p]'h).toNat : Int) == 62) = false := byte_ne (k := 62) q62
    have t43 : (((s[p]'h).toNat : Int) == 43) = false := byte_ne (k := 43) q43
    have t45 : (((s[p]'h).toNat : Int) == 45) = true := byte_eq (k := 45) q45
    clear g0 g1 q60 q62 q43 q45
    go_enter Tryd.func75, Tryd.ntmps75
    go_wp2_with fail
    go_ret
    exact ⟨ret_int HR.out.symm, rfl⟩
  by_cases q42 : (s[p]'h) = 42
  · have HR := Lib.hid (show markN s.data.toList p = 1 from by unfold markN; rw [g0, g1]; simp [markC, q42])
    have t60 : (((s[p]'h).toNat : Int) == 60) = false := byte_ne (k := 60) q60
    have t62 : (((s[p]'h).toNat : Int) == 62) = false := byte_ne (k := 62) q62
    have t43 : (((s[p]'h).toNat : Int) == 43) = false := byte_ne (k := 43) q43
    have t45 : (((s[p]'h).toNat : Int) == 45) = false := byte_ne (k := 45) q45
    have t42 : (((s[p]'h).toNat : Int) == 42) = true := byte_eq (k := 42) q42
    clear g0 g1 q60 q62 q43 q45 q42
    go_enter Tryd.func75, Tryd.ntmps75
    go_wp2_with fail
    go_ret
    exact ⟨ret_int HR.out.symm, rfl⟩
  by_cases q47 : (s[p]'h) = 47
  · have HR := Lib.hid (show markN s.data.toList p = 1 from by unfold markN; rw [g0, g1]; simp [markC, q47])
    have t60 : (((s[p]'h).toNat : Int) == 60) = false := byte_ne (k := 60) q60
    have t62 : (((s[p]'h).toNat : Int) == 62) = false := byte_ne (k := 62) q62
    have t43 : (((s[p]'h).toNat : Int) == 43) = false := byte_ne (k := 43) q43
    have t45 : (((s[p]'h).toNat : Int) == 45) = false := byte_ne (k := 45) q45
    have t42 : (((s[p]'h).toNat : Int) == 42) = false := byte_ne (k := 42) q42
    have t47 : (((s[p]'h).toNat : Int) == 47) = true := byte_eq (k := 47) q47
    clear g0 g1 q60 q62 q43 q45 q42 q47
    go_enter Tryd.func75, Tryd.ntmps75
    go_wp2_with fail
    go_ret
    exact ⟨ret_int HR.out.symm, rfl⟩
  by_cases q40 : (s[p]'h) = 40
  · have HR := Lib.hid (show markN s.data.toList p = 1 from by unfold markN; rw [g0, g1]; simp [markC, q40])
    have t60 : (((s[p]'h).toNat : Int) == 60) = false := byte_ne (k := 60) q60
    have t62 : (((s[p]'h).toNat : Int) == 62) = false := byte_ne (k := 62) q62
    have t43 : (((s[p]'h).toNat : Int) == 43) = false := byte_ne (k := 43) q43
    have t45 : (((s[p]'h).toNat : Int) == 45) = false := byte_ne (k := 45) q45
    have t42 : (((s[p]'h).toNat : Int) == 42) = false := byte_ne (k := 42) q42
    have t47 : (((s[p]'h).toNat : Int) == 47) = false := byte_ne (k := 47) q47
    have t40 : (((s[p]'h).toNat : Int) == 40) = true := byte_eq (k := 40) q40
    clear g0 g1 q60 q62 q43 q45 q42 q47 q40
    go_enter Tryd.func75, Tryd.ntmps75
    go_wp2_with fail
    go_ret
    exact ⟨ret_int HR.out.symm, rfl⟩
  by_cases q41 : (s[p]'h) = 41
  · have HR := Lib.hid (show markN s.data.toList p = 1 from by unfold markN; rw [g0, g1]; simp [markC, q41])
    have t60 : (((s[p]'h).toNat : Int) == 60) = false := byte_ne (k := 60) q60
    have t62 : (((s[p]'h).toNat : Int) == 62) = false := byte_ne (k := 62) q62
    have t43 : (((s[p]'h).toNat : Int) == 43) = false := byte_ne (k := 43) q43
    have t45 : (((s[p]'h).toNat : Int) == 45) = false := byte_ne (k := 45) q45
    have t42 : (((s[p]'h).toNat : Int) == 42) = false := byte_ne (k := 42) q42
    have t47 : (((s[p]'h).toNat : Int) == 47) = false := byte_ne (k := 47) q47
    have t40 : (((s[p]'h).toNat : Int) == 40) = false := byte_ne (k := 40) q40
    have t41 : (((s[p]'h).toNat : Int) == 41) = true := byte_eq (k := 41) q41
    clear g0 g1 q60 q62 q43 q45 q42 q47 q40 q41
    go_enter Tryd.func75, Tryd.ntmps75
    go_wp2_with fail
    go_ret
    exact ⟨ret_int HR.out.symm, rfl⟩
  by_cases q44 : (s[p]'h) = 44
  · have HR := Lib.hid (show markN s.data.toList p = 1 from by unfold markN; rw [g0, g1]; simp [markC, q44])
    have t60 : (((s[p]'h).toNat : Int) == 60) = false := byte_ne (k := 60) q60
    have t62 : (((s[p]'h).toNat : Int) == 62) = false := byte_ne (k := 62) q62
    have t43 : (((s[p]'h).toNat : Int) == 43) = false := byte_ne (k := 43) q43
    have t45 : (((s[p]'h).toNat : Int) == 45) = false := byte_ne (k := 45) q45
    have t42 : (((s[p]'h).toNat : Int) == 42) = false := byte_ne (k := 42) q42
    have t47 : (((s[p]'h).toNat : Int) == 47) = false := byte_ne (k := 47) q47
    have t40 : (((s[p]'h).toNat : Int) == 40) = false := byte_ne (k := 40) q40
    have t41 : (((s[p]'h).toNat : Int) == 41) = false := byte_ne (k := 41) q41
    have t44 : (((s[p]'h).toNat : Int) == 44) = true := byte_eq (k := 44) q44
    clear g0 g1 q60 q62 q43 q45 q42 q47 q40 q41 q44
    go_enter Tryd.func75, Tryd.ntmps75
    go_wp2_with fail
    go_ret
    exact ⟨ret_int HR.out.symm, rfl⟩
  by_cases q58 : (s[p]'h) = 58
  · have HR := Lib.hid (show markN s.data.toList p = 1 from by unfold markN; rw [g0, g1]; simp [markC, q58])
    have t60 : (((s[p]'h).toNat : Int) == 60) = false := byte_ne (k := 60) q60
    have t62 : (((s[p]'h).toNat : Int) == 62) = false := byte_ne (k := 62) q62
    have t43 : (((s[p]'h).toNat : Int) == 43) = false := byte_ne (k := 43) q43
    have t45 : (((s[p]'h).toNat : Int) == 45) = false := byte_ne (k := 45) q45
    have t42 : (((s[p]'h).toNat : Int) == 42) = false := byte_ne (k := 42) q42
    have t47 : (((s[p]'h).toNat : Int) == 47) = false := byte_ne (k := 47) q47
    have t40 : (((s[p]'h).toNat : Int) == 40) = false := byte_ne (k := 40) q40
    have t41 : (((s[p]'h).toNat : Int) == 41) = false := byte_ne (k := 41) q41
    have t44 : (((s[p]'h).toNat : Int) == 44) = false := byte_ne (k := 44) q44
    have t58 : (((s[p]'h).toNat : Int) == 58) = true := byte_eq (k := 58) q58
    clear g0 g1 q60 q62 q43 q45 q42 q47 q40 q41 q44 q58
    go_enter Tryd.func75, Tryd.ntmps75
    go_wp2_with fail
    go_ret
    exact ⟨ret_int HR.out.symm, rfl⟩
  by_cases q61 : (s[p]'h) = 61
  · have HR := Lib.hid (show markN s.data.toList p = 1 from by unfold markN; rw [g0, g1]; simp [markC, q61])
    have t60 : (((s[p]'h).toNat : Int) == 60) = false := byte_ne (k := 60) q60
    have t62 : (((s[p]'h).toNat : Int) == 62) = false := byte_ne (k := 62) q62
    have t43 : (((s[p]'h).toNat : Int) == 43) = false := byte_ne (k := 43) q43
    have t45 : (((s[p]'h).toNat : Int) == 45) = false := byte_ne (k := 45) q45
    have t42 : (((s[p]'h).toNat : Int) == 42) = false := byte_ne (k := 42) q42
    have t47 : (((s[p]'h).toNat : Int) == 47) = false := byte_ne (k := 47) q47
    have t40 : (((s[p]'h).toNat : Int) == 40) = false := byte_ne (k := 40) q40
    have t41 : (((s[p]'h).toNat : Int) == 41) = false := byte_ne (k := 41) q41
    have t44 : (((s[p]'h).toNat : Int) == 44) = false := byte_ne (k := 44) q44
    have t58 : (((s[p]'h).toNat : Int) == 58) = false := byte_ne (k := 58) q58
    have t61 : (((s[p]'h).toNat : Int) == 61) = true := byte_eq (k := 61) q61
    clear g0 g1 q60 q62 q43 q45 q42 q47 q40 q41 q44 q58 q61
    go_enter Tryd.func75, Tryd.ntmps75
    go_wp2_with fail
    go_ret
    exact ⟨ret_int HR.out.symm, rfl⟩
  have HR := Lib.hid (show markN s.data.toList p = 0 from by unfold markN; rw [g0, g1]; simp [markC, q60, q62, q43, q45, q42, q47, q40, q41, q44, q58, q61])
  have t60 : (((s[p]'h).toNat : Int) == 60) = false := byte_ne (k := 60) q60
  have t62 : (((s[p]'h).toNat : Int) == 62) = false := byte_ne (k := 62) q62
  have t43 : (((s[p]'h).toNat : Int) == 43) = false := byte_ne (k := 43) q43
  have t45 : (((s[p]'h).toNat : Int) == 45) = false := byte_ne (k := 45) q45
  have t42 : (((s[p]'h).toNat : Int) == 42) = false := byte_ne (k := 42) q42
  have t47 : (((s[p]'h).toNat : Int) == 47) = false := byte_ne (k := 47) q47
  have t40 : (((s[p]'h).toNat : Int) == 40) = false := byte_ne (k := 40) q40
  have t41 : (((s[p]'h).toNat : Int) == 41) = false := byte_ne (k := 41) q41
  have t44 : (((s[p]'h).toNat : Int) == 44) = false := byte_ne (k := 44) q44
  have t58 : (((s[p]'h).toNat : Int) == 58) = false := byte_ne (k := 58) q58
  have t61 : (((s[p]'h).toNat : Int) == 61) = false := byte_ne (k := 61) q61
  clear g0 g1 q60 q62 q43 q45 q42 q47 q40 q41 q44 q58 q61
  go_enter Tryd.func75, Tryd.ntmps75
  go_wp2_with fail
  go_ret
  exact ⟨ret_int HR.out.symm, rfl⟩

set_option maxHeartbeats 2000000 in
theorem lmark_last (s : ByteArray) (hs : s.size ≤ 9223372036854775807) (p : Nat) (h : p < s.size) (hp : ¬ p + 1 < s.size) (w : World) :
    Calls Tryd.prog 75 #[.string s, .int .i64 (p : Int)] w fun e w' => e = .returned (.int .i64 (markN s.data.toList p)) ∧ w = w' := by
  have g0 := byte_getD s p h
  have g1 := byte_past s (p + 1) hp
  have dp : decide ((p : Int) + 1 < (s.size : Int)) = false := decide_eq_false (by omega)
  by_cases q60 : (s[p]'h) = 60
  · have HR := Lib.hid (show markN s.data.toList p = 1 from by unfold markN; rw [g0, g1]; simp [markC, q60])
    have t60 : (((s[p]'h).toNat : Int) == 60) = true := byte_eq (k := 60) q60
    have t43 : (((s[p]'h).toNat : Int) == 43) = false := byte_ne (k := 43) (by rw [q60]; decide)
    have t45 : (((s[p]'h).toNat : Int) == 45) = false := byte_ne (k := 45) (by rw [q60]; decide)
    have t42 : (((s[p]'h).toNat : Int) == 42) = false := byte_ne (k := 42) (by rw [q60]; decide)
    have t47 : (((s[p]'h).toNat : Int) == 47) = false := byte_ne (k := 47) (by rw [q60]; decide)
    have t40 : (((s[p]'h).toNat : Int) == 40) = false := byte_ne (k := 40) (by rw [q60]; decide)
    have t41 : (((s[p]'h).toNat : Int) == 41) = false := byte_ne (k := 41) (by rw [q60]; decide)
    have t44 : (((s[p]'h).toNat : Int) == 44) = false := byte_ne (k := 44) (by rw [q60]; decide)
    have t58 : (((s[p]'h).toNat : Int) == 58) = false := byte_ne (k := 58) (by rw [q60]; decide)
    have t62 : (((s[p]'h).toNat : Int) == 62) = false := byte_ne (k := 62) (by rw [q60]; decide)
    clear g0 g1 q60
    go_enter Tryd.func75, Tryd.ntmps75
    go_wp2_with fail
    go_ret
    exact ⟨ret_int HR.out.symm, rfl⟩
  by_cases q62 : (s[p]'h) = 62
  · have HR := Lib.hid (show markN s.data.toList p = 1 from by unfold markN; rw [g0, g1]; simp [markC, q62])
    have t43 : (((s[p]'h).toNat : Int) == 43) = false := byte_ne (k := 43) (by rw [q62]; decide)
    have t45 : (((s[p]'h).toNat : Int) == 45) = false := byte_ne (k := 45) (by rw [q62]; decide)
    have t42 : (((s[p]'h).toNat : Int) == 42) = false := byte_ne (k := 42) (by rw [q62]; decide)
    have t47 : (((s[p]'h).toNat : Int) == 47) = false := byte_ne (k := 47) (by rw [q62]; decide)
    have t40 : (((s[p]'h).toNat : Int) == 40) = false := byte_ne (k := 40) (by rw [q62]; decide)
    have t41 : (((s[p]'h).toNat : Int) == 41) = false := byte_ne (k := 41) (by rw [q62]; decide)
    have t44 : (((s[p]'h).toNat : Int) == 44) = false := byte_ne (k := 44) (by rw [q62]; decide)
    have t58 : (((s[p]'h).toNat : Int) == 58) = false := byte_ne (k := 58) (by rw [q62]; decide)
    have t60 : (((s[p]'h).toNat : Int) == 60) = false := byte_ne (k := 60) q60
    have t61 : (((s[p]'h).toNat : Int) == 61) = false := byte_ne (k := 61) (by rw [q62]; decide)
    have t62 : (((s[p]'h).toNat : Int) == 62) = true := byte_eq (k := 62) q62
    clear g0 g1 q60 q62
    go_enter Tryd.func75, Tryd.ntmps75
    go_wp2_with fail
    go_ret
    exact ⟨ret_int HR.out.symm, rfl⟩
  by_cases q43 : (s[p]'h) = 43
  · have HR := Lib.hid (show markN s.data.toList p = 1 from by unfold markN; rw [g0, g1]; simp [markC, q43])
    have t60 : (((s[p]'h).toNat : Int) == 60) = false := byte_ne (k := 60) q60
    have t62 : (((s[p]'h).toNat : Int) == 62) = false := byte_ne (k := 62) q62
    have t43 : (((s[p]'h).toNat : Int) == 43) = true := byte_eq (k := 43) q43
    clear g0 g1 q60 q62 q43
    go_enter Tryd.func75, Tryd.ntmps75
    go_wp2_with fail
    go_ret
    exact ⟨ret_int HR.out.symm, rfl⟩
  by_cases q45 : (s[p]'h) = 45
  · have HR := Lib.hid (show markN s.data.toList p = 1 from by unfold markN; rw [g0, g1]; simp [markC, q45])
    have t60 : (((s[p]'h).toNat : Int) == 60) = false := byte_ne (k := 60) q60
    have t62 : (((s[p]'h).toNat : Int) == 62) = false := byte_ne (k := 62) q62
    have t43 : (((s[p]'h).toNat : Int) == 43) = false := byte_ne (k := 43) q43
    have t45 : (((s[p]'h).toNat : Int) == 45) = true := byte_eq (k := 45) q45
    clear g0 g1 q60 q62 q43 q45
    go_enter Tryd.func75, Tryd.ntmps75
    go_wp2_with fail
    go_ret
    exact ⟨ret_int HR.out.symm, rfl⟩
  by_cases q42 : (s[p]'h) = 42
  · have HR := Lib.hid (show markN s.data.toList p = 1 from by unfold markN; rw [g0, g1]; simp [markC, q42])
    have t60 : (((s[p]'h).toNat : Int) == 60) = false := byte_ne (k := 60) q60
    have t62 : (((s[p]'h).toNat : Int) == 62) = false := byte_ne (k := 62) q62
    have t43 : (((s[p]'h).toNat : Int) == 43) = false := byte_ne (k := 43) q43
    have t45 : (((s[p]'h).toNat : Int) == 45) = false := byte_ne (k := 45) q45
    have t42 : (((s[p]'h).toNat : Int) == 42) = true := byte_eq (k := 42) q42
    clear g0 g1 q60 q62 q43 q45 q42
    go_enter Tryd.func75, Tryd.ntmps75
    go_wp2_with fail
    go_ret
    exact ⟨ret_int HR.out.symm, rfl⟩
  by_cases q47 : (s[p]'h) = 47
  · have HR := Lib.hid (show markN s.data.toList p = 1 from by unfold markN; rw [g0, g1]; simp [markC, q47])
    have t60 : (((s[p]'h).toNat : Int) == 60) = false := byte_ne (k := 60) q60
    have t62 : (((s[p]'h).toNat : Int) == 62) = false := byte_ne (k := 62) q62
    have t43 : (((s[p]'h).toNat : Int) == 43) = false := byte_ne (k := 43) q43
    have t45 : (((s[p]'h).toNat : Int) == 45) = false := byte_ne (k := 45) q45
    have t42 : (((s[p]'h).toNat : Int) == 42) = false := byte_ne (k := 42) q42
    have t47 : (((s[p]'h).toNat : Int) == 47) = true := byte_eq (k := 47) q47
    clear g0 g1 q60 q62 q43 q45 q42 q47
    go_enter Tryd.func75, Tryd.ntmps75
    go_wp2_with fail
    go_ret
    exact ⟨ret_int HR.out.symm, rfl⟩
  by_cases q40 : (s[p]'h) = 40
  · have HR := Lib.hid (show markN s.data.toList p = 1 from by unfold markN; rw [g0, g1]; simp [markC, q40])
    have t60 : (((s[p]'h).toNat : Int) == 60) = false := byte_ne (k := 60) q60
    have t62 : (((s[p]'h).toNat : Int) == 62) = false := byte_ne (k := 62) q62
    have t43 : (((s[p]'h).toNat : Int) == 43) = false := byte_ne (k := 43) q43
    have t45 : (((s[p]'h).toNat : Int) == 45) = false := byte_ne (k := 45) q45
    have t42 : (((s[p]'h).toNat : Int) == 42) = false := byte_ne (k := 42) q42
    have t47 : (((s[p]'h).toNat : Int) == 47) = false := byte_ne (k := 47) q47
    have t40 : (((s[p]'h).toNat : Int) == 40) = true := byte_eq (k := 40) q40
    clear g0 g1 q60 q62 q43 q45 q42 q47 q40
    go_enter Tryd.func75, Tryd.ntmps75
    go_wp2_with fail
    go_ret
    exact ⟨ret_int HR.out.symm, rfl⟩
  by_cases q41 : (s[p]'h) = 41
  · have HR := Lib.hid (show markN s.data.toList p = 1 from by unfold markN; rw [g0, g1]; simp [markC, q41])
    have t60 : (((s[p]'h).toNat : Int) == 60) = false := byte_ne (k := 60) q60
    have t62 : (((s[p]'h).toNat : Int) == 62) = false := byte_ne (k := 62) q62
    have t43 : (((s[p]'h).toNat : Int) == 43) = false := byte_ne (k := 43) q43
    have t45 : (((s[p]'h).toNat : Int) == 45) = false := byte_ne (k := 45) q45
    have t42 : (((s[p]'h).toNat : Int) == 42) = false := byte_ne (k := 42) q42
    have t47 : (((s[p]'h).toNat : Int) == 47) = false := byte_ne (k := 47) q47
    have t40 : (((s[p]'h).toNat : Int) == 40) = false := byte_ne (k := 40) q40
    have t41 : (((s[p]'h).toNat : Int) == 41) = true := byte_eq (k := 41) q41
    clear g0 g1 q60 q62 q43 q45 q42 q47 q40 q41
    go_enter Tryd.func75, Tryd.ntmps75
    go_wp2_with fail
    go_ret
    exact ⟨ret_int HR.out.symm, rfl⟩
  by_cases q44 : (s[p]'h) = 44
  · have HR := Lib.hid (show markN s.data.toList p = 1 from by unfold markN; rw [g0, g1]; simp [markC, q44])
    have t60 : (((s[p]'h).toNat : Int) == 60) = false := byte_ne (k := 60) q60
    have t62 : (((s[p]'h).toNat : Int) == 62) = false := byte_ne (k := 62) q62
    have t43 : (((s[p]'h).toNat : Int) == 43) = false := byte_ne (k := 43) q43
    have t45 : (((s[p]'h).toNat : Int) == 45) = false := byte_ne (k := 45) q45
    have t42 : (((s[p]'h).toNat : Int) == 42) = false := byte_ne (k := 42) q42
    have t47 : (((s[p]'h).toNat : Int) == 47) = false := byte_ne (k := 47) q47
    have t40 : (((s[p]'h).toNat : Int) == 40) = false := byte_ne (k := 40) q40
    have t41 : (((s[p]'h).toNat : Int) == 41) = false := byte_ne (k := 41) q41
    have t44 : (((s[p]'h).toNat : Int) == 44) = true := byte_eq (k := 44) q44
    clear g0 g1 q60 q62 q43 q45 q42 q47 q40 q41 q44
    go_enter Tryd.func75, Tryd.ntmps75
    go_wp2_with fail
    go_ret
    exact ⟨ret_int HR.out.symm, rfl⟩
  by_cases q58 : (s[p]'h) = 58
  · have HR := Lib.hid (show markN s.data.toList p = 1 from by unfold markN; rw [g0, g1]; simp [markC, q58])
    have t60 : (((s[p]'h).toNat : Int) == 60) = false := byte_ne (k := 60) q60
    have t62 : (((s[p]'h).toNat : Int) == 62) = false := byte_ne (k := 62) q62
    have t43 : (((s[p]'h).toNat : Int) == 43) = false := byte_ne (k := 43) q43
    have t45 : (((s[p]'h).toNat : Int) == 45) = false := byte_ne (k := 45) q45
    have t42 : (((s[p]'h).toNat : Int) == 42) = false := byte_ne (k := 42) q42
    have t47 : (((s[p]'h).toNat : Int) == 47) = false := byte_ne (k := 47) q47
    have t40 : (((s[p]'h).toNat : Int) == 40) = false := byte_ne (k := 40) q40
    have t41 : (((s[p]'h).toNat : Int) == 41) = false := byte_ne (k := 41) q41
    have t44 : (((s[p]'h).toNat : Int) == 44) = false := byte_ne (k := 44) q44
    have t58 : (((s[p]'h).toNat : Int) == 58) = true := byte_eq (k := 58) q58
    clear g0 g1 q60 q62 q43 q45 q42 q47 q40 q41 q44 q58
    go_enter Tryd.func75, Tryd.ntmps75
    go_wp2_with fail
    go_ret
    exact ⟨ret_int HR.out.symm, rfl⟩
  by_cases q61 : (s[p]'h) = 61
  · have HR := Lib.hid (show markN s.data.toList p = 1 from by unfold markN; rw [g0, g1]; simp [markC, q61])
    have t60 : (((s[p]'h).toNat : Int) == 60) = false := byte_ne (k := 60) q60
    have t62 : (((s[p]'h).toNat : Int) == 62) = false := byte_ne (k := 62) q62
    have t43 : (((s[p]'h).toNat : Int) == 43) = false := byte_ne (k := 43) q43
    have t45 : (((s[p]'h).toNat : Int) == 45) = false := byte_ne (k := 45) q45
    have t42 : (((s[p]'h).toNat : Int) == 42) = false := byte_ne (k := 42) q42
    have t47 : (((s[p]'h).toNat : Int) == 47) = false := byte_ne (k := 47) q47
    have t40 : (((s[p]'h).toNat : Int) == 40) = false := byte_ne (k := 40) q40
    have t41 : (((s[p]'h).toNat : Int) == 41) = false := byte_ne (k := 41) q41
    have t44 : (((s[p]'h).toNat : Int) == 44) = false := byte_ne (k := 44) q44
    have t58 : (((s[p]'h).toNat : Int) == 58) = false := byte_ne (k := 58) q58
    have t61 : (((s[p]'h).toNat : Int) == 61) = true := byte_eq (k := 61) q61
    clear g0 g1 q60 q62 q43 q45 q42 q47 q40 q41 q44 q58 q61
    go_enter Tryd.func75, Tryd.ntmps75
    go_wp2_with fail
    go_ret
    exact ⟨ret_int HR.out.symm, rfl⟩
  have HR := Lib.hid (show markN s.data.toList p = 0 from by unfold markN; rw [g0, g1]; simp [markC, q60, q62, q43, q45, q42, q47, q40, q41, q44, q58, q61])
  have t60 : (((s[p]'h).toNat : Int) == 60) = false := byte_ne (k := 60) q60
  have t62 : (((s[p]'h).toNat : Int) == 62) = false := byte_ne (k := 62) q62
  have t43 : (((s[p]'h).toNat : Int) == 43) = false := byte_ne (k := 43) q43
  have t45 : (((s[p]'h).toNat : Int) == 45) = false := byte_ne (k := 45) q45
  have t42 : (((s[p]'h).toNat : Int) == 42) = false := byte_ne (k := 42) q42
  have t47 : (((s[p]'h).toNat : Int) == 47) = false := byte_ne (k := 47) q47
  have t40 : (((s[p]'h).toNat : Int) == 40) = false := byte_ne (k := 40) q40
  have t41 : (((s[p]'h).toNat : Int) == 41) = false := byte_ne (k := 41) q41
  have t44 : (((s[p]'h).toNat : Int) == 44) = false := byte_ne (k := 44) q44
  have t58 : (((s[p]'h).toNat : Int) == 58) = false := byte_ne (k := 58) q58
  have t61 : (((s[p]'h).toNat : Int) == 61) = false := byte_ne (k := 61) q61
  clear g0 g1 q60 q62 q43 q45 q42 q47 q40 q41 q44 q58 q61
  go_enter Tryd.func75, Tryd.ntmps75
  go_wp2_with fail
  go_ret
  exact ⟨ret_int HR.out.symm, rfl⟩

theorem lmark_any (s : ByteArray) (hs : s.size ≤ 9223372036854775807) (p : Nat) (h : p < s.size) (w : World) :
    Calls Tryd.prog 75 #[.string s, .int .i64 (p : Int)] w fun e w' => e = .returned (.int .i64 (markN s.data.toList p)) ∧ w = w' := by
  by_cases hp : p + 1 < s.size
  · exact lmark_two s hs p h hp w
  · exact lmark_last s hs p h hp w
end Go.Proofs.YteflmfifhmlpiaaDoor
namespace Go.Proofs.YteflmfifhmlpiaaDoor
open Go.RowKit

def textAt (i : Nat) : List UInt8 := placeText (atC i) (atR i)
def findP (l : List UInt8) : Option Nat := (List.range 1024).find? fun i => textAt i == l
def prC (l : List UInt8) : Int := if formedB l = true then match findP l with | some i => atC i | none => 0 else 0
def prR (l : List UInt8) : Int := if formedB l = true then match findP l with | some i => atR i | none => 0 else 0
def prE (l : List UInt8) : Int := if formedB l = true then match findP l with | some _ => 0 | none => 4 else 2
theorem find_some {l : List UInt8} {i : Nat} (hi : i < 1024) (h : textAt i = l) (hb : ∀ j, j < i → textAt j ≠ l) : findP l = some i := by
  unfold findP
  rw [List.find?_range_eq_some]
  refine ⟨by simpa using h, by simpa using hi, fun j hj => by simpa using hb j hj⟩
theorem find_none {l : List UInt8} (hb : ∀ j, j < 1024 → textAt j ≠ l) : findP l = none := by
  unfold findP
  rw [List.find?_eq_none]
  intro j hj
  have := hb j (by simpa using hj)
  simpa using this

def leftP (v : Value) : Nat := 1024 - (intOf v).toNat
set_option maxHeartbeats 1000000 in
set_option maxRecDepth 10000 in
theorem rparse2_any (s : ByteArray) (hs : s.size ≤ 9223372036854775807) (w : World) :
    Calls Tryd.prog 73 #[.string s] w fun e w' => e = .returned (.tuple #[.agg #[.int .i64 (prC s.data.toList), .int .i64 (prR s.data.toList)], .int .i64 (prE s.data.toList)]) ∧ Below w.heap.size w w' := by
  have HF := Lib.hid (rformed_any s hs)
  cases hf : formedB s.data.toList with
  | false =>
    have e1 := Lib.hid (show prC s.data.toList = 0 from if_neg (by rw [hf]; decide))
    have e2 := Lib.hid (show prR s.data.toList = 0 from if_neg (by rw [hf]; decide))
    have e3 := Lib.hid (show prE s.data.toList = 2 from if_neg (by rw [hf]; decide))
    rw [hf] at HF
    clear hf
    go_enter Tryd.func73, Tryd.ntmps73
    go_wp2_with fail
    refine (HF.out _).mono ?_; rintro e w1 ⟨rfl, rfl⟩
    go_wp2_with fail
    exact bodyPost_ret (v := .tuple #[.agg #[.int .i64 0, .int .i64 0], .int .i64 2]) (by simp [results, Tryd.results73, go_sem]) rfl
      ⟨by rw [e1.out, e2.out, e3.out], (Below.refl _ _).alloc (Nat.le_refl _) _⟩
  | true =>
    have Hf := Lib.hid hf
    rw [hf] at HF
    clear hf
    go_enter Tryd.func73, Tryd.ntmps73
    go_wp2_with fail
    refine (HF.out _).mono ?_; rintro e w1 ⟨rfl, rfl⟩
    go_wp2_with fail
    go_loopw [5] (fun v wr => ∃ i : Nat, i ≤ 1024 ∧ v = .int .i64 i ∧ Hid (∀ j, j < i → textAt j ≠ s.data.toList) ∧ Below (w.heap.size + 1) (w.alloc (.cells #[.int .i64 0, .int .i64 0] 24)) wr) (fun v _ => leftP v)
    case atStart => exact ⟨0, by omega, rfl, Lib.hid fun j hj => by omega, Below.refl _ _⟩
    case round =>
      obtain ⟨i, hi, rfl, HU, hb⟩ := hrel
      have k0 : wr.cell? ⟨w.heap.size, 0, none⟩ = some (.int .i64 0) := by rw [hb.cell (by simp)]; simp
      have k1 : wr.cell? ⟨w.heap.size, 1, none⟩ = some (.int .i64 0) := by rw [hb.cell (by simp)]; simp
      have f0 : wr.frozen? ⟨w.heap.size, 0, none⟩ = false := by rw [hb.frozen (by simp)]; simp
      have f1 : wr.frozen? ⟨w.heap.size, 1, none⟩ = false := by rw [hb.frozen (by simp)]; simp
      have z0 : w.heap.size < wr.heap.size := by have := hb.size; simp at this; omega
      have b0 : Below w.heap.size w wr := ((Below.refl _ _).alloc (Nat.le_refl _) _).trans (hb.mono (by omega))
      by_cases hlt : i < 1024
      · by_cases he : textAt i = s.data.toList
        · have ht : (placeText (atC i) (atR i) == s.toList) = true := by rw [ByteArray.toList_eq]; simpa [textAt] using he
          have hfd := find_some hlt he HU.out
          have e1 := Lib.hid (show prC s.data.toList = atC i from by unfold prC; rw [if_pos Hf.out, hfd])
          have e2 := Lib.hid (show prR s.data.toList = atR i from by unfold prR; rw [if_pos Hf.out, hfd])
          have e3 := Lib.hid (show prE s.data.toList = 0 from by unfold prE; rw [if_pos Hf.out, hfd])
          clear hfd he
          go_wp2_with fail
          refine (rat_any _ _).mono ?_; rintro e w2 ⟨rfl, b2⟩
          have q0 := keep_cell b2 k0
          have q1 := keep_cell b2 k1
          have p0 := keep_frozen b2 (by simpa using z0) f0
          have p1 := keep_frozen b2 (by simpa using z0) f1
          have z2 : w.heap.size < w2.heap.size := by have := b2.size; omega
          clear k0 k1 f0 f1
          go_wp2_with fail
          refine (rtext2_any _ _ _).mono ?_; rintro e w3 ⟨rfl, b3⟩
          have m0 := keep_fresh b3 0 (v := .int .i64 (atC i)) rfl
          have m1 := keep_fresh b3 1 (v := .int .i64 (atR i)) rfl
          have n0 := keep_cell b3 (p := ⟨w.heap.size, 0, none⟩) (v := .int .i64 0) (by simp [go_sem, z2, q0])
          have n1 := keep_cell b3 (p := ⟨w.heap.size, 1, none⟩) (v := .int .i64 0) (by simp [go_sem, z2, q1])
          have g0 := keep_frozen b3 (p := ⟨w.heap.size, 0, none⟩) (by simp; omega) (by simp [go_sem, z2, p0])
          have g1 := keep_frozen b3 (p := ⟨w.heap.size, 1, none⟩) (by simp; omega) (by simp [go_sem, z2, p1])
          have h2 := b0.trans (b2.mono (by omega))
          have h3 : Below w.heap.size w w3 := (h2.alloc (by omega) _).trans (b3.mono (by simp; omega))
          clear q0 q1 p0 p1 b2 b3
          go_wp2_with fail
          exact bodyPost_ret (v := .tuple #[.agg #[.int .i64 (atC i), .int .i64 (atR i)], .int .i64 0]) (by simp [results, Tryd.results73, go_sem, n0, n1]) rfl
            ⟨by rw [e1.out, e2.out, e3.out], (h3.setCell (by simp) _).setCell (by simp) _⟩
        · have ht : (placeText (atC i) (atR i) == s.toList) = false := by rw [ByteArray.toList_eq]; simpa [textAt] using he
          have HU' : Hid (∀ j, j < i + 1 → textAt j ≠ s.data.toList) := Lib.hid fun j hj => by
            by_cases e : j = i
            · subst e; exact he
            · exact HU.out j (by omega)
          clear he
          go_wp2_with fail
          refine (rat_any _ _).mono ?_; rintro e w2 ⟨rfl, b2⟩
          have h2 := hb.trans (b2.mono (by omega))
          go_wp2_with fail
          refine (rtext2_any _ _ _).mono ?_; rintro e w3 ⟨rfl, b3⟩
          have z2 : w.heap.size + 1 ≤ w2.heap.size := by have := b2.size; omega
          have h3 : Below (w.heap.size + 1) (w.alloc (.cells #[.int .i64 0, .int .i64 0] 24)) w3 := (h2.alloc z2 _).trans (b3.mono (by simp; omega))
          clear k0 k1 f0 f1 b2 b3
          go_wp2_with fail
          go_roundw
          case rel => exact ⟨i + 1, by omega, by go_num, HU', h3⟩
          case measure => simp [leftP, intOf]; omega
      · have hfd := find_none (l := s.data.toList) fun j hj => HU.out j (by omega)
        have e1 := Lib.hid (show prC s.data.toList = 0 from by unfold prC; rw [if_pos Hf.out, hfd])
        have e2 := Lib.hid (show prR s.data.toList = 0 from by unfold prR; rw [if_pos Hf.out, hfd])
        have e3 := Lib.hid (show prE s.data.toList = 4 from by unfold prE; rw [if_pos Hf.out, hfd])
        clear hfd
        go_wp2_with fail
        exact bodyPost_ret (v := .tuple #[.agg #[.int .i64 0, .int .i64 0], .int .i64 4]) (by simp [results, Tryd.results73, go_sem, k0, k1]) rfl
          ⟨by rw [e1.out, e2.out, e3.out], (b0.setCell (by simp) _).setCell (by simp) _⟩
end Go.Proofs.YteflmfifhmlpiaaDoor
