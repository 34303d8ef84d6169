/- lexer's own calls: signs, and how many bytes at a text's beginning are of a sort. -/
import Derived.Test.YtjfmmnebhmlkeaaDoorLxD
import Derived.Laws.RangeAny
import Derived.Shelf.Abstract
namespace Go.Proofs.YtjfmmnebhmlkeaaDoor
open Go.RowKit

set_option maxHeartbeats 400000 in
theorem ufigure_at (c : Int) (b0 b1 : Bool) (h0 : decide ((48 : Int) ≤ c) = b0) (h1 : decide (c ≤ 57) = b1) (w : World) :
    Calls Tryd.prog 12 #[.int .i32 c] w fun e w' => e = .returned (.bool (b0 && b1)) ∧ w = w' := by
  cases b0 <;> cases b1
  all_goals
    go_enter Tryd.func12, Tryd.ntmps12
    go_wp2_with fail
    go_ret
    exact ⟨rfl, rfl⟩
set_option maxHeartbeats 400000 in
theorem uletter_at (c : Int) (b0 b1 : Bool) (h0 : decide ((65 : Int) ≤ c) = b0) (h1 : decide (c ≤ 90) = b1) (w : World) :
    Calls Tryd.prog 15 #[.int .i32 c] w fun e w' => e = .returned (.bool (b0 && b1)) ∧ w = w' := by
  cases b0 <;> cases b1
  all_goals
    go_enter Tryd.func15, Tryd.ntmps15
    go_wp2_with fail
    go_ret
    exact ⟨rfl, rfl⟩
set_option maxHeartbeats 400000 in
theorem unamed_at (c : Int) (A B : Bool) (H1 : Hid (∀ w, Calls Tryd.prog 15 #[.int .i32 c] w fun e w' => e = .returned (.bool A) ∧ w = w'))
    (H2 : Hid (∀ w, Calls Tryd.prog 12 #[.int .i32 c] w fun e w' => e = .returned (.bool B) ∧ w = w')) (w : World) :
    Calls Tryd.prog 17 #[.int .i32 c] w fun e w' => e = .returned (.bool (A || B)) ∧ w = w' := by
  cases A with
  | true =>
    go_enter Tryd.func17, Tryd.ntmps17
    go_wp2_with fail
    refine (H1.out _).mono ?_; rintro e w1 ⟨rfl, rfl⟩
    go_wp2_with fail
    go_ret
    exact ⟨rfl, rfl⟩
  | false =>
    go_enter Tryd.func17, Tryd.ntmps17
    go_wp2_with fail
    refine (H1.out _).mono ?_; rintro e w1 ⟨rfl, rfl⟩
    go_wp2_with fail
    refine (H2.out _).mono ?_; rintro e w2 ⟨rfl, rfl⟩
    go_wp2_with fail
    go_ret
    exact ⟨rfl, rfl⟩

/-- which bytes are letters -/
def isLet (c : UInt8) : Bool := decide (65 ≤ c.toNat ∧ c.toNat ≤ 90)
/-- what a sort of signs is, as a function's value: of signs of one byte, of others -/
structure SortC (F : Nat) (f : UInt8 → Bool) : Prop where
  enters : ∀ (args : Array Value) (w : World), (callFunc F args).run Tryd.prog w = .ok (.enter F args) w
  low : ∀ (c : UInt8) (w : World), Calls Tryd.prog F #[.int .i32 (c.toNat : Int)] w fun e w' => e = .returned (.bool (f c)) ∧ w = w'
  high : ∀ (c : Nat) (w : World), 128 ≤ c → Calls Tryd.prog F #[.int .i32 (c : Int)] w fun e w' => e = .returned (.bool false) ∧ w = w'
  off : ∀ c : UInt8, 128 ≤ c.toNat → f c = false
theorem ufigure_low (c : UInt8) (w : World) : Calls Tryd.prog 12 #[.int .i32 (c.toNat : Int)] w fun e w' => e = .returned (.bool (isFig c)) ∧ w = w' :=
  (ufigure_at c.toNat _ _ rfl rfl w).mono fun _ _ ⟨he, hb⟩ => ⟨he.trans (ret_bool (by
    unfold isFig
    rw [Bool.eq_iff_iff]
    simp only [Bool.and_eq_true, decide_eq_true_eq]
    omega)), hb⟩
theorem uletter_low (c : UInt8) (w : World) : Calls Tryd.prog 15 #[.int .i32 (c.toNat : Int)] w fun e w' => e = .returned (.bool (isLet c)) ∧ w = w' :=
  (uletter_at c.toNat _ _ rfl rfl w).mono fun _ _ ⟨he, hb⟩ => ⟨he.trans (ret_bool (by
    unfold isLet
    rw [Bool.eq_iff_iff]
    simp only [Bool.and_eq_true, decide_eq_true_eq]
    omega)), hb⟩
theorem ufigure_high (c : Nat) (w : World) (h : 128 ≤ c) : Calls Tryd.prog 12 #[.int .i32 (c : Int)] w fun e w' => e = .returned (.bool false) ∧ w = w' :=
  ufigure_at c true false (decide_eq_true (by omega)) (decide_eq_false (by omega)) w
theorem uletter_high (c : Nat) (w : World) (h : 128 ≤ c) : Calls Tryd.prog 15 #[.int .i32 (c : Int)] w fun e w' => e = .returned (.bool false) ∧ w = w' :=
  uletter_at c true false (decide_eq_true (by omega)) (decide_eq_false (by omega)) w
theorem nam_split (c : UInt8) : isNam c = (isLet c || isFig c) := by
  unfold isNam isLet isFig
  rw [Bool.eq_iff_iff]
  simp only [Bool.or_eq_true, decide_eq_true_eq]
theorem sort_figure : SortC 12 isFig where
  enters := fun args w => enters_of Tryd.func12 (by kernel_rfl) rfl args w
  low := ufigure_low
  high := ufigure_high
  off := fun c h => decide_eq_false (by omega)
theorem sort_named : SortC 17 isNam where
  enters := fun args w => enters_of Tryd.func17 (by kernel_rfl) rfl args w
  low := fun c w => by
    rw [nam_split]
    exact unamed_at c.toNat _ _ (Lib.hid (uletter_low c)) (Lib.hid (ufigure_low c)) w
  high := fun c w h => unamed_at c false false (Lib.hid fun w => uletter_high c w h) (Lib.hid fun w => ufigure_high c w h) w
  off := fun c h => decide_eq_false (by omega)

set_option maxHeartbeats 1000000 in
set_option maxRecDepth 10000 in
theorem urun_any {F : Nat} {f : UInt8 → Bool} (hA : SortC F f) (T : ByteArray) (_hs : T.size ≤ 9223372036854775807) (w : World) :
    Calls Tryd.prog 14 #[.string T, .func (.func F) #[] #[]] w fun e w' => e = .returned (.int .i64 (runLen f T.data.toList 0 : Int)) ∧ Below w.heap.size w w' := by
  have HA := Lib.hid hA
  have hE := hA.enters
  clear hA
  go_enter Tryd.func14, Tryd.ntmps14
  go_wp2_with fail
  go_loopw [4, 5] (fun _ _ wr => ∃ pos : Nat, pos ≤ T.size ∧ wr = w.iter T pos ∧ Hid (∀ j, j < pos → f (T.data.toList.getD (0 + j) 0) = true)) (fun _ _ wr => T.size - wr.iterPos w.heap.size)
  case atStart => exact ⟨0, Nat.zero_le _, rfl, Lib.hid fun j hj => by omega⟩
  case round =>
    obtain ⟨pos, hpos, rfl, HU⟩ := hrel
    by_cases hp : pos < T.size
    · have hb := byte_getD T pos hp
      by_cases ha : (T[pos]'hp).toNat < 128
      · have H1 := HA.out.low (T[pos]'hp)
        cases hf : f (T[pos]'hp) with
        | true =>
          have HS : Hid (∀ j, j < pos + 1 → f (T.data.toList.getD (0 + j) 0) = true) := Lib.hid fun j hj => by
            by_cases e : j = pos
            · subst e; rw [Nat.zero_add, hb]; exact hf
            · exact HU.out j (by omega)
          rw [hf] at H1
          have H1 := Lib.hid H1
          have hnx := fun ty => run_next_ascii (P := Tryd.prog) w T pos ty hp (by omega)
          clear hb hf ha
          go_wp2_with fail
          refine (H1.out _).mono ?_; rintro e w1 ⟨rfl, rfl⟩
          go_wp2_with fail
          go_roundw
          case rel => exact ⟨pos + 1, by omega, rfl, HS⟩
          case measure => simp; omega
        | false =>
          have hR : runLen f T.data.toList 0 = pos := run_is HU.out (by rw [len_of]; omega) (.inr (by rw [Nat.zero_add, hb]; exact hf))
          have HR := Lib.hid hR
          rw [hf] at H1
          have H1 := Lib.hid H1
          have hnx := fun ty => run_next_ascii (P := Tryd.prog) w T pos ty hp (by omega)
          clear hb hf ha hR
          go_wp2_with fail
          refine (H1.out _).mono ?_; rintro e w1 ⟨rfl, rfl⟩
          go_wp2_with fail
          go_ret
          exact ⟨by rw [HR.out]; rfl, (Below.refl _ _).alloc (Nat.le_refl _) _⟩
      · have hr := (decode_high T pos hp (by omega)).1
        have hR : runLen f T.data.toList 0 = pos := run_is HU.out (by rw [len_of]; omega) (.inr (by rw [Nat.zero_add, hb]; exact HA.out.off _ (by omega)))
        have HR := Lib.hid hR
        have hnx := fun ty => run_next_any (P := Tryd.prog) w T pos ty hp
        have H1 := Lib.hid fun w => HA.out.high (Utf8.decode T pos).1 w (by omega)
        clear hb ha hR hr
        generalize (Utf8.decode T pos).1 = R at *
        generalize (Utf8.decode T pos).2 = V at *
        go_wp2_with fail
        refine (H1.out _).mono ?_; rintro e w1 ⟨rfl, rfl⟩
        go_wp2_with fail
        go_ret
        exact ⟨by rw [HR.out]; rfl, (Below.refl _ _).alloc (Nat.le_refl _) _⟩
    · have hnx := fun ty => run_next_end (P := Tryd.prog) w T pos ty hp
      have hR : runLen f T.data.toList 0 = T.size := by
        have e : pos = T.size := by omega
        exact run_is (fun j hj => HU.out j (by omega)) (by rw [len_of]; omega) (.inl (by rw [len_of]; omega))
      have HR := Lib.hid hR
      clear hR
      go_wp2_with fail
      go_ret
      exact ⟨by rw [HR.out]; rfl, (Below.refl _ _).alloc (Nat.le_refl _) _⟩
end Go.Proofs.YtjfmmnebhmlkeaaDoor
