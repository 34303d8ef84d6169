/- lexer's own calls: the library's test whether a sign is one of the marks. -/
import Derived.Test.YtjfmmnebhmlkeaaDoorLsA
import Derived.Test.YtjfmmnebhmlkeaaDoorShelfL
import Derived.Shelf.Strings.Runes
import Derived.Shelf.Strings.Prefix
import Derived.Laws.Runes
import Derived.Lib.Bytealg
import Derived.WalkMore
import Derived.Deep.QuietTactic
import Derived.BigQuiet
import Derived.Deep.RegionWith
import Derived.Lib.IndexAny
namespace Go.Proofs.YtjfmmnebhmlkeaaDoor
open Go.RowKit

/-- the marks of one byte that no other one begins with -/
def markS : ByteArray := ⟨#[43, 45, 42, 47, 40, 41, 44, 58, 61]⟩
theorem markS_low : ∀ b ∈ markS.data.toList, b.toNat < 128 := by decide
theorem encode_size (r : Int) (hv : Utf8.valid r = true) (h1 : 128 ≤ r) (h2 : r < 2048) : (Utf8.encode r).size = 2 := by
  have a1 : ¬ r.toNat < 128 := by omega
  have a2 : r.toNat < 2048 := by omega
  unfold Utf8.encode
  simp only [hv, if_true, a1, a2, if_false]
  rfl
theorem encode_two (r : Int) (h1 : 128 ≤ r) (h2 : r < 256) : (Utf8.encode r).size = 2 ∧ ∀ h : 1 < (Utf8.encode r).size, 128 ≤ ((Utf8.encode r)[1]'h).toNat := by
  have hv : Utf8.valid r = true := by rw [validRune_eq]; exact decide_eq_true (.inl ⟨by omega, by omega⟩)
  have hs := encode_size r hv h1 (by omega)
  refine ⟨hs, fun h => ?_⟩
  have E3 := (encode_facts r hv h1).2.2 (by omega)
  have e : (Utf8.encode r).size - 1 = 1 := by omega
  simpa only [e] using E3
set_option maxRecDepth 100000 in
theorem index_none (c : UInt8) (h : 128 ≤ c.toNat) (a e : Nat) : Lib.indexByte (markS.extract a e).data.toList c = -1 := by
  rw [← Lib.firstIdx_eq]
  exact firstIdx_ascii markS a e c markS_low h
set_option maxHeartbeats 400000 in
theorem uvalid_any (c : Nat) (h2 : c < 55296) (w : World) :
    Calls Tryd.prog 39 #[.int .i32 (c : Int)] w fun e w' => e = .returned (.bool true) ∧ w = w' := by
  have d0 : decide ((0 : Int) ≤ (c : Int)) = true := decide_eq_true (by omega)
  have d1 : decide ((c : Int) < 55296) = true := decide_eq_true (by omega)
  clear h2
  go_enter Tryd.func39, Tryd.ntmps39
  go_wp2_with fail
  go_ret
  exact ⟨rfl, rfl⟩
theorem uindexbyte (s : ByteArray) (c : Int) (w : World) :
    Calls Tryd.prog 38 #[.string s, .int .u8 c] w fun e w' => e = .returned (.int .i64 (Lib.indexByte s.data.toList c.toNat.toUInt8)) ∧ w' = w :=
  Any.strings_IndexByte { Tryd.lays151 with } s c w
theorem uindexbyte_none (b : UInt8) (h : 128 ≤ b.toNat) (a e : Nat) (w : World) :
    Calls Tryd.prog 38 #[.string (ByteArray.extract ⟨#[43, 45, 42, 47, 40, 41, 44, 58, 61]⟩ a e), .int .u8 (b.toNat : Int)] w fun en w' => en = .returned (.int .i64 (-1)) ∧ w = w' :=
  (uindexbyte _ _ w).mono fun _ _ ⟨he, hw⟩ => ⟨he.trans (ret_int (by
    have e1 : ((b.toNat : Int)).toNat.toUInt8 = b := by simp
    rw [e1]
    exact index_none b h a e)), hw.symm⟩
set_option maxHeartbeats 1000000 in
set_option maxRecDepth 1000000 in
theorem uindex_high (c : Nat) (h1 : 128 ≤ c) (h2 : c < 256) (w : World) :
    Calls Tryd.prog 30 #[.string ⟨#[43, 45, 42, 47, 40, 41, 44, 58, 61]⟩, .int .i32 (c : Int)] w fun e w' => e = .returned (.int .i64 (-1)) ∧ Below w.heap.size w w' := by
  obtain ⟨E1, E2⟩ := encode_two c (by omega) (by omega)
  have HV := Lib.hid (uvalid_any c (by omega))
  have d0 : decide ((0 : Int) ≤ (c : Int)) = true := decide_eq_true (by omega)
  have d1 : decide ((c : Int) < 128) = false := decide_eq_false (by omega)
  have d2 : ((c : Int) == 65533) = false := by rw [beq_eq_false_iff_ne]; omega
  clear h1 h2
  have hcv : ∀ w, (convert 21 9 (.int .i32 (c : Int))).run Tryd.prog w = .ok (.string (Utf8.encode (c : Int))) w := fun w => run_convert_int_string w _ _ _ _ (by kernel_rfl) (by kernel_rfl)
  generalize Utf8.encode (c : Int) = RS at *
  have g1 : 1 < RS.size := by omega
  have n1 : (((((⟨#[43, 45, 42, 47, 40, 41, 44, 58, 61]⟩ : ByteArray)[1]'(by decide)).toNat : Int)) != ((RS[1]'g1).toNat : Int)) = true := by
    have := E2 g1
    rw [bne_iff_ne]
    show (45 : Int) ≠ _
    omega
  have HN := Lib.hid (uindexbyte_none (RS[1]'g1) (E2 g1))
  clear E2
  go_enter Tryd.func30, Tryd.ntmps30
  go_wp2_with fail
  refine (HV.out _).mono ?_; rintro e w1 ⟨rfl, rfl⟩
  go_wp2_with fail
  go_step3
  go_wp2_with fail
  go_loopw [9, 10] (fun vi vf wr => vi = .int .i64 1 ∧ vf = .int .i64 0 ∧ wr = w) (fun _ _ _ => 0)
  case atStart => exact ⟨rfl, rfl, rfl⟩
  case round =>
    obtain ⟨rfl, rfl, rfl⟩ := hrel
    go_wp2_with fail
    go_step3
    go_wp2_with fail
    go_quiet (fail)
    go_wp2_with fail
    go_region_with ((go_at_call 38; refine (HN.out _ _ _).mono ?_; rintro e w1 ⟨rfl, rfl⟩))
    all_goals
      go_wp2_with fail
      simp (zetaDelta := true) only [Exit.inBlock, Exit.noGoto_ret, Exit.then]
      go_ret
      exact ⟨rfl, below_drewN (Below.refl _ _) _⟩

/-- which bytes are marks of one byte that no other one begins with -/
def isMrk (c : UInt8) : Bool := decide (0 ≤ Lib.indexByte [43, 45, 42, 47, 40, 41, 44, 58, 61] c)
set_option maxHeartbeats 400000 in
theorem ucontains_high (c : Nat) (h1 : 128 ≤ c) (h2 : c < 256) (w : World) :
    Calls Tryd.prog 19 #[.string ⟨#[43, 45, 42, 47, 40, 41, 44, 58, 61]⟩, .int .i32 (c : Int)] w fun e w' => e = .returned (.bool false) ∧ Below w.heap.size w w' := by
  have H := Lib.hid (uindex_high c h1 h2)
  clear h1 h2
  go_enter Tryd.func19, Tryd.ntmps19
  go_wp2_with fail
  refine (H.out _).mono ?_; rintro e w1 ⟨rfl, b1⟩
  go_wp2_with fail
  go_ret
  exact ⟨rfl, b1⟩
theorem ucontains_any (c : UInt8) (w : World) :
    Calls Tryd.prog 19 #[.string ⟨#[43, 45, 42, 47, 40, 41, 44, 58, 61]⟩, .int .i32 (c.toNat : Int)] w fun e w' => e = .returned (.bool (isMrk c)) ∧ Below w.heap.size w w' := by
  by_cases h : c.toNat < 128
  · refine (Any.strings_ContainsRune_ascii Tryd.lays151 _ (c.toNat : Int) w (by omega) (by omega)).mono fun e w' ⟨he, hw⟩ => ⟨he.trans (ret_bool ?_), hw ▸ Below.refl _ _⟩
    have e1 : ((c.toNat : Int)).toNat.toUInt8 = c := by simp
    rw [e1]
    rfl
  · refine (ucontains_high c.toNat (by omega) c.toNat_lt w).mono fun e w' ⟨he, hw⟩ => ⟨he.trans (ret_bool ?_), hw⟩
    have h9 := index_none c (by omega) 0 9
    have e0 : (markS.extract 0 9).data.toList = [43, 45, 42, 47, 40, 41, 44, 58, 61] := by decide
    rw [e0] at h9
    unfold isMrk
    rw [h9]
    rfl
theorem mrk_iff (c : UInt8) : isMrk c = true ↔ c = 43 ∨ c = 45 ∨ c = 42 ∨ c = 47 ∨ c = 40 ∨ c = 41 ∨ c = 44 ∨ c = 58 ∨ c = 61 := by
  unfold isMrk
  rw [← Lib.contains_iff_indexByte]
  simp
/-- the library's test how a text begins -/
theorem uprefix_any (s p : ByteArray) (w : World) :
    Calls Tryd.prog 18 #[.string s, .string p] w fun e w' => e = .returned (.bool (p.data.toList.isPrefixOf s.data.toList)) ∧ w = w' :=
  (Any.strings_HasPrefix Tryd.lays99 s p w).mono fun _ _ ⟨he, hw⟩ => ⟨he, hw.symm⟩
end Go.Proofs.YtjfmmnebhmlkeaaDoor
