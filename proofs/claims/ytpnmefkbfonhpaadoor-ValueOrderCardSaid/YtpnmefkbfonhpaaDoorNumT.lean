/- The contracts of num.Text and num.Parse, where strconv's three variables hold what they are laid with. -/
import Derived.Test.YtpnmefkbfonhpaaDoorShelf
import Derived.Test.YtpnmefkbfonhpaaDoorEnvI
import Derived.Test.YtpnmefkbfonhpaaDoorTx
import Derived.Test.YtpnmefkbfonhpaaDoorNumA
import Derived.Lib.AtoiErrMem
namespace Go.Proofs.YtpnmefkbfonhpaaDoor
open Go.RowKit

theorem gRng : Tryd.prog.globalNamed "strconv.ErrRange" = some 2 := by kernel_rfl
theorem gSyn : Tryd.prog.globalNamed "strconv.ErrSyntax" = some 1 := by kernel_rfl

/-- What strconv reads of the library's variables. -/
structure Env (w : World) : Prop where
  itab : EnvI w
  rng : ∃ tp p, w.var? Tryd.prog "strconv.ErrRange" = some #[.iface tp p]
  syn : ∃ tp p, w.var? Tryd.prog "strconv.ErrSyntax" = some #[.iface tp p]

theorem var_lt {w : World} {name : String} {g : Nat} {v : Value} {r : List Value} (hg : Tryd.prog.globalNamed name = some g) (hv : w.var? Tryd.prog name = some (v :: r).toArray) : g < w.heap.size := by
  have h0 := World.var?_cell hg hv 0
  exact Lib.lt_of_cell (a := ⟨g, 0, none⟩) (v := v) (by simpa using h0)
theorem Env.below {w w' : World} (h : Env w) (hb : Below w.heap.size w w') : Env w' := by
  obtain ⟨ht, ⟨t1, p1, h1⟩, ⟨t2, p2, h2⟩⟩ := h
  exact ⟨ht.below hb, ⟨t1, p1, var?_below hb gRng (var_lt (r := []) gRng h1) h1⟩, ⟨t2, p2, var?_below hb gSyn (var_lt (r := []) gSyn h2) h2⟩⟩

set_option maxHeartbeats 400000 in
theorem text_any (n : Int) (hn : B64 n) (w : World) (hE : Env w) :
    Calls Tryd.prog 28 #[.int .i64 n] w fun e w' => e = .returned (.string ⟨(Lib.itoa n).toArray⟩) ∧ Below w.heap.size w w' := by
  have H := Lib.hid (itoa_any n hn)
  have HE := Lib.hid hE
  clear hn hE
  go_enter Tryd.func28, Tryd.ntmps28
  go_wp2_with fail
  refine (H.out _ HE.out.itab).mono ?_
  rintro e w1 ⟨rfl, hb⟩
  go_wp2_with fail
  go_ret
  exact ⟨rfl, hb⟩

theorem atoi_ok (s : ByteArray) (hs : s.size ≤ 281474976710656) (v : Int) (h : Lib.atoiAll s.data.toList = .ok v) (w : World) :
    Calls Tryd.prog 38 #[.string s] w fun e w' => e = .returned (.tuple #[.int .i64 v, .nilIface]) ∧ Below w.heap.size w w' :=
  (Any.strconv_Atoi_ok Tryd.laysC172 s (by omega) v h w).mono fun _ _ ⟨he, hw⟩ => ⟨he, by
    rcases hw with hw | ⟨t, hw⟩
    · exact hw ▸ Below.refl _ _
    · exact hw ▸ Lib.bytesWorld_below _ _ _⟩
theorem atoi_bad (s : ByteArray) (hs : s.size ≤ 281474976710656) (h : ∀ v, Lib.atoiAll s.data.toList ≠ .ok v) (w : World) (hE : Env w) :
    Calls Tryd.prog 38 #[.string s] w fun e w' => ∃ (n : Int) (N : Nat), B64 n ∧ e = .returned (.tuple #[.int .i64 n, .iface 76 (.pointer (some ⟨N, 0, none⟩))]) ∧ Below w.heap.size w w' := by
  obtain ⟨_, ⟨t1, p1, h1⟩, ⟨t2, p2, h2⟩⟩ := hE
  cases ha : Lib.atoiAll s.data.toList
  · exact absurd ha (h _)
  · exact (Any.strconv_Atoi_syntax_var Tryd.laysC172 s hs ha t2 p2 w h2).mono fun _ _ ⟨N, he, _, _, hb⟩ => ⟨0, N, by unfold B64; omega, he, hb⟩
  · refine (Any.strconv_Atoi_range_var Tryd.laysC172 s hs ha t1 p1 w h1).mono fun _ _ ⟨N, he, _, _, hb⟩ => ⟨_, N, ?_, he, hb⟩
    unfold B64 Lib.atoiSat
    split <;> (try split) <;> omega

set_option maxHeartbeats 1000000 in
theorem parse_ok (s : ByteArray) (hs : s.size ≤ 281474976710656) (v : Int) (h : Lib.atoiAll s.data.toList = .ok v) (w : World) (hE : Env w) :
    Calls Tryd.prog 22 #[.string s] w fun e w' => e = .returned (.tuple #[.int .i64 (pV s.data.toList), .bool (pB s.data.toList)]) ∧ Below w.heap.size w w' := by
  have H := Lib.hid (atoi_ok s hs v h)
  have HT := Lib.hid (text_any v (Lib.atoiAll_bounds h))
  have HE := Lib.hid hE
  have HV := Lib.hid h
  clear h hE
  go_enter Tryd.func22, Tryd.ntmps22
  go_wp2_with fail
  refine (H.out _).mono ?_
  rintro e w1 ⟨rfl, hb⟩
  have HT1 := Lib.hid (HT.out w1.drew ((HE.out.below hb).below (below_drewN (Below.refl _ _) 1)))
  go_wp2_with fail
  go_region_with ((first
    | (go_at_call 28; refine HT1.out.mono ?_; rintro e w2 ⟨rfl, hb2⟩)
    | (go_at_call 40; refine (all2f _ _ _ _ rfl).mono ?_; rintro e w3 ⟨rfl, rfl⟩)
    | (go_at_call 39; refine (told_any _ _ _).mono ?_; rintro e w3 ⟨rfl, rfl⟩)))
  all_goals
    go_wp2
    go_ret2
    exact ⟨ret_pair (p_keep HV.out) (p_test HV.out), (hb.trans ((below_drewN (Below.refl _ _) 1).mono hb.size)).trans ((hb2.mono hb.size).alloc (Nat.le_trans hb.size hb2.size) _)⟩

set_option maxHeartbeats 1000000 in
theorem parse_bad (s : ByteArray) (hs : s.size ≤ 281474976710656) (h : ∀ v, Lib.atoiAll s.data.toList ≠ .ok v) (w : World) (hE : Env w) :
    Calls Tryd.prog 22 #[.string s] w fun e w' => e = .returned (.tuple #[.int .i64 (pV s.data.toList), .bool (pB s.data.toList)]) ∧ Below w.heap.size w w' := by
  have H := Lib.hid (atoi_bad s hs h w hE)
  have HE := Lib.hid hE
  have HP := Lib.hid (p_fail h)
  clear h hE
  go_enter Tryd.func22, Tryd.ntmps22
  go_wp2_with fail
  refine H.out.mono ?_
  rintro e w1 ⟨n, N, hn, rfl, hb⟩
  have HT1 := Lib.hid (text_any n hn w1.drew ((HE.out.below hb).below (below_drewN (Below.refl _ _) 1)))
  clear hn
  go_wp2_with fail
  go_region_with ((first
    | (go_at_call 28; refine HT1.out.mono ?_; rintro e w2 ⟨rfl, hb2⟩)
    | (go_at_call 40; refine (all2f _ _ _ _ rfl).mono ?_; rintro e w3 ⟨rfl, rfl⟩)
    | (go_at_call 39; refine (told_any _ _ _).mono ?_; rintro e w3 ⟨rfl, rfl⟩)))
  all_goals
    go_wp2
    go_ret2
    exact ⟨ret_pair HP.out.1.symm HP.out.2.symm, (hb.trans ((below_drewN (Below.refl _ _) 1).mono hb.size)).trans ((hb2.mono hb.size).alloc (Nat.le_trans hb.size hb2.size) _)⟩

/-- What num.Parse makes of any text that is not too long for a copy. -/
theorem parse_any (s : ByteArray) (hs : s.size ≤ 281474976710656) (w : World) (hE : Env w) :
    Calls Tryd.prog 22 #[.string s] w fun e w' => e = .returned (.tuple #[.int .i64 (pV s.data.toList), .bool (pB s.data.toList)]) ∧ Below w.heap.size w w' := by
  by_cases h : ∃ v, Lib.atoiAll s.data.toList = .ok v
  · obtain ⟨v, hv⟩ := h
    exact parse_ok s hs v hv w hE
  · exact parse_bad s hs (fun v hv => h ⟨v, hv⟩) w hE
end Go.Proofs.YtpnmefkbfonhpaaDoor
