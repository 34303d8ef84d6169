/- Texts joined: TlB, TaA. -/
import Derived.Test.YtahdlijkohmdfaaGreatDoorMg34
import Derived.Deep.RegionHeld3
import Derived.Test.YtahdlijkohmdfaaGreatDoorMg09
import Derived.WalkKit
import Derived.OpenShut
import Derived.Deep.Slices
import Derived.ChangeSame
set_option linter.all false
set_option linter.unusedVariables false
set_option linter.unusedSimpArgs false
/- SyntaxTells: the statement's walk. -/
namespace Go.Proofs.YtahdlijkohmdfaaGreatDoor
open Go.RowKit

set_option maxHeartbeats 4000000 in
set_option maxRecDepth 10000 in
theorem tells_out1 (a b : Tr) (ha : Wid a) (hb : Wid b) (ga : fitsB a = false) (w : World) (hE : EnvP w) (hI : EnvI w) (A B : Option Addr) (ca cb : Nat) (hA : KV w (fun _ => True) a A) (hB : KV w (fun _ => True) b B) :
    Calls Tryz.prog 4 #[.agg #[.int .i64 a.kind, .int .i64 a.num, .int .i64 a.c1, .int .i64 a.r1, .int .i64 a.c2, .int .i64 a.r2, .string ⟨a.word.toArray⟩, .slice A a.kids.length ca], .agg #[.int .i64 b.kind, .int .i64 b.num, .int .i64 b.c1, .int .i64 b.r1, .int .i64 b.c2, .int .i64 b.r2, .string ⟨b.word.toArray⟩, .slice B b.kids.length cb]] w (Yes w) := by
  have la := ha.len
  have lb := hb.len
  have HE := Lib.hid hE
  have HI := Lib.hid hI
  have FA := Lib.hid (fun w A ca hA => lfits_any a ha w A ca hA)
  have FB := Lib.hid (fun w A ca hA => lfits_any b hb w A ca hA)
  unfold tv at FA FB
  rw [ga] at FA
  generalize fitsB b = G at *
  clear hE hI ha hb ga
  unfold maxLen at la lb
  go_enter Tryz.func4, Tryz.ntmps4
  have S0 := stays_two w.heap.size a b A B ca cb
  have Q0 := Lib.hid (two_new w a b A B ca cb hA hB)
  have H0 : Hid (Below w.heap.size w ((w.alloc (valT a A ca)).alloc (valT b B cb))) := Lib.hid (belowAlloc (belowAlloc (Below.refl _ _) (Nat.le_refl _) _) (by simp) _)
  unfold valT vT at Q0 H0
  clear hA hB
  go_wp2_with fail
  refine (FA.out _ A ca Q0.out.1.2).mono ?_; rintro e w1 ⟨rfl, b1⟩
  have H1 := Lib.hid (H0.out.trans (b1.mono H0.out.size))
  have Q1 := Lib.hid (S0 _ _ Q0.out b1)
  clear b1 H0 Q0
  obtain ⟨d0, d1, d2, d3, d4, d5, d6, d7⟩ := Q1.out.2.1
  go_wp2_with fail
  refine (FB.out _ B cb Q1.out.2.2).mono ?_; rintro e w2 ⟨rfl, b2⟩
  have H2 := Lib.hid (H1.out.trans (b2.mono H1.out.size))
  have Q2 := Lib.hid (S0 _ _ Q1.out b2)
  clear b2 H1 Q1 d0 d1 d2 d3 d4 d5 d6 d7
  go_wp2_with fail
  refine (salive _ (HE.out.below H2.out) (HI.out.below H2.out)).mono ?_; rintro e w3 ⟨rfl, b3⟩
  have H3 := Lib.hid (H2.out.trans (b3.mono H2.out.size))
  clear b3 H2 Q2
  go_wp2_with fail
  go_ret
  exact ⟨rfl, H3.out⟩

set_option maxHeartbeats 4000000 in
set_option maxRecDepth 10000 in
theorem tells_out2 (a b : Tr) (ha : Wid a) (hb : Wid b) (ga : fitsB a = true) (gb : fitsB b = false) (w : World) (hE : EnvP w) (hI : EnvI w) (A B : Option Addr) (ca cb : Nat) (hA : KV w (fun _ => True) a A) (hB : KV w (fun _ => True) b B) :
    Calls Tryz.prog 4 #[.agg #[.int .i64 a.kind, .int .i64 a.num, .int .i64 a.c1, .int .i64 a.r1, .int .i64 a.c2, .int .i64 a.r2, .string ⟨a.word.toArray⟩, .slice A a.kids.length ca], .agg #[.int .i64 b.kind, .int .i64 b.num, .int .i64 b.c1, .int .i64 b.r1, .int .i64 b.c2, .int .i64 b.r2, .string ⟨b.word.toArray⟩, .slice B b.kids.length cb]] w (Yes w) := by
  have la := ha.len
  have lb := hb.len
  have HE := Lib.hid hE
  have HI := Lib.hid hI
  have FA := Lib.hid (fun w A ca hA => lfits_any a ha w A ca hA)
  have FB := Lib.hid (fun w A ca hA => lfits_any b hb w A ca hA)
  unfold tv at FA FB
  rw [ga] at FA
  rw [gb] at FB
  clear hE hI ha hb ga gb
  unfold maxLen at la lb
  go_enter Tryz.func4, Tryz.ntmps4
  have S0 := stays_two w.heap.size a b A B ca cb
  have Q0 := Lib.hid (two_new w a b A B ca cb hA hB)
  have H0 : Hid (Below w.heap.size w ((w.alloc (valT a A ca)).alloc (valT b B cb))) := Lib.hid (belowAlloc (belowAlloc (Below.refl _ _) (Nat.le_refl _) _) (by simp) _)
  unfold valT vT at Q0 H0
  clear hA hB
  go_wp2_with fail
  refine (FA.out _ A ca Q0.out.1.2).mono ?_; rintro e w1 ⟨rfl, b1⟩
  have H1 := Lib.hid (H0.out.trans (b1.mono H0.out.size))
  have Q1 := Lib.hid (S0 _ _ Q0.out b1)
  clear b1 H0 Q0
  obtain ⟨d0, d1, d2, d3, d4, d5, d6, d7⟩ := Q1.out.2.1
  go_wp2_with fail
  refine (FB.out _ B cb Q1.out.2.2).mono ?_; rintro e w2 ⟨rfl, b2⟩
  have H2 := Lib.hid (H1.out.trans (b2.mono H1.out.size))
  have Q2 := Lib.hid (S0 _ _ Q1.out b2)
  clear b2 H1 Q1 d0 d1 d2 d3 d4 d5 d6 d7
  go_wp2_with fail
  refine (salive _ (HE.out.below H2.out) (HI.out.below H2.out)).mono ?_; rintro e w3 ⟨rfl, b3⟩
  have H3 := Lib.hid (H2.out.trans (b3.mono H2.out.size))
  clear b3 H2 Q2
  go_wp2_with fail
  go_ret
  exact ⟨rfl, H3.out⟩

set_option maxHeartbeats 4000000 in
set_option maxRecDepth 10000 in
theorem tells_no (a b : Tr) (ha : Wid a) (hb : Wid b) (fa : Fit a) (ga : fitsB a = true) (gb : fitsB b = true) (hR : rightP a = false) (w : World) (hE : EnvP w) (hI : EnvI w) (A B : Option Addr) (ca cb : Nat) (hA : KV w (fun _ => True) a A) (hB : KV w (fun _ => True) b B) :
    Calls Tryz.prog 4 #[.agg #[.int .i64 a.kind, .int .i64 a.num, .int .i64 a.c1, .int .i64 a.r1, .int .i64 a.c2, .int .i64 a.r2, .string ⟨a.word.toArray⟩, .slice A a.kids.length ca], .agg #[.int .i64 b.kind, .int .i64 b.num, .int .i64 b.c1, .int .i64 b.r1, .int .i64 b.c2, .int .i64 b.r2, .string ⟨b.word.toArray⟩, .slice B b.kids.length cb]] w (Yes w) := by
  have la := ha.len
  have lb := hb.len
  have HE := Lib.hid hE
  have HI := Lib.hid hI
  have FA := Lib.hid (fun w A ca hA => lfits_any a ha w A ca hA)
  have FB := Lib.hid (fun w A ca hA => lfits_any b hb w A ca hA)
  unfold tv at FA FB
  have PA := Lib.hid (fun w A ca hA hI hS => tprint a ha fa (fits_iff.1 ga).1 w A ca hA hI hS)
  have RP := Lib.hid (fun w A ca hA => trprint a ha fa ga w A ca hA)
  have RI := Lib.hid (fun w A ca hA hS => sright_any a ha w (fun _ => True) A ca hA w.heap.size (Nat.le_refl _) hS)
  have RR := Lib.hid (fun w A ca hA => rright_fit a ha ga w A ca hA)
  have DA := Lib.hid (fun w A ca hA => pdeep_any 40 a (fits_deep ga) (by decide) ha w (fun _ => True) A ca hA)
  have RD := Lib.hid (fun w A ca hA => rdeep_any 40 a (fits_deep ga) (by decide) ha w (fun _ => True) A ca hA)
  have SM := Lib.hid (fun w A B ca cb hA hB => psame_bool a b ha hb w A B ca cb hA hB)
  have RS := Lib.hid (fun w A B ca cb hA hB => rsame_bool a b ga ha hb w A B ca cb hA hB)
  have SS := Lib.hid (fun w A B ca cb hA hB => same_self a ha w A B ca cb hA hB)
  have hd40 := fits_deep ga
  unfold tv at PA RP RI RR DA RD SM RS
  rw [ga] at FA
  rw [gb] at FB
  rw [hR] at RI RR
  have hz := print_size fa (fits_iff.1 ga).1
  generalize (⟨(printP a).toArray⟩ : ByteArray) = Z at *
  have hde : ((deepT a : Int) != (deepT a : Int)) = false := neq_self' _
  have hme : ((sameB a b) != (sameB a b)) = false := neq_self' _
  generalize sameB a b = M at *
  clear hE hI ha hb ga gb hR fa
  unfold maxLen at la lb
  go_enter Tryz.func4, Tryz.ntmps4
  have S0 := stays_two w.heap.size a b A B ca cb
  have Q0 := Lib.hid (two_new w a b A B ca cb hA hB)
  have H0 : Hid (Below w.heap.size w ((w.alloc (valT a A ca)).alloc (valT b B cb))) := Lib.hid (belowAlloc (belowAlloc (Below.refl _ _) (Nat.le_refl _) _) (by simp) _)
  unfold valT vT at Q0 H0
  clear hA hB
  go_wp2_with fail
  refine (FA.out _ A ca Q0.out.1.2).mono ?_; rintro e w1 ⟨rfl, b1⟩
  have H1 := Lib.hid (H0.out.trans (b1.mono H0.out.size))
  have Q1 := Lib.hid (S0 _ _ Q0.out b1)
  clear b1 H0 Q0
  obtain ⟨d0, d1, d2, d3, d4, d5, d6, d7⟩ := Q1.out.2.1
  go_wp2_with fail
  refine (FB.out _ B cb Q1.out.2.2).mono ?_; rintro e w2 ⟨rfl, b2⟩
  have H2 := Lib.hid (H1.out.trans (b2.mono H1.out.size))
  have Q2 := Lib.hid (S0 _ _ Q1.out b2)
  clear b2 H1 Q1 d0 d1 d2 d3 d4 d5 d6 d7
  obtain ⟨c0, c1, c2, c3, c4, c5, c6, c7⟩ := Q2.out.1.1
  go_wp2_with fail
  refine (PA.out _ A ca Q2.out.1.2 (HI.out.below H2.out) ((HE.out.below H2.out).s)).mono ?_; rintro e w3 ⟨rfl, b3⟩
  have H3 := Lib.hid (H2.out.trans (b3.mono H2.out.size))
  have Q3 := Lib.hid (S0 _ _ Q2.out b3)
  clear b3 H2 Q2 c0 c1 c2 c3 c4 c5 c6 c7
  go_wp2_with fail
  have Q3d := Lib.hid (S0 w3 w3.drew Q3.out (Below.refl _ w3).drew)
  have H3d := Lib.hid (H3.out.drew)
  go_region_held3 (fun w' => (w'.cell? ⟨w.heap.size, 0, none⟩ = some (.int .i64 a.kind) ∧ w'.cell? ⟨w.heap.size, 1, none⟩ = some (.int .i64 a.num) ∧ w'.cell? ⟨w.heap.size, 2, none⟩ = some (.int .i64 a.c1) ∧ w'.cell? ⟨w.heap.size, 3, none⟩ = some (.int .i64 a.r1) ∧ w'.cell? ⟨w.heap.size, 4, none⟩ = some (.int .i64 a.c2) ∧ w'.cell? ⟨w.heap.size, 5, none⟩ = some (.int .i64 a.r2) ∧ w'.cell? ⟨w.heap.size, 6, none⟩ = some (.string ⟨a.word.toArray⟩) ∧ w'.cell? ⟨w.heap.size, 7, none⟩ = some (.slice A a.kids.length ca)) ∧ (w'.cell? ⟨w.heap.size + 1, 0, none⟩ = some (.int .i64 b.kind) ∧ w'.cell? ⟨w.heap.size + 1, 1, none⟩ = some (.int .i64 b.num) ∧ w'.cell? ⟨w.heap.size + 1, 2, none⟩ = some (.int .i64 b.c1) ∧ w'.cell? ⟨w.heap.size + 1, 3, none⟩ = some (.int .i64 b.r1) ∧ w'.cell? ⟨w.heap.size + 1, 4, none⟩ = some (.int .i64 b.c2) ∧ w'.cell? ⟨w.heap.size + 1, 5, none⟩ = some (.int .i64 b.r2) ∧ w'.cell? ⟨w.heap.size + 1, 6, none⟩ = some (.string ⟨b.word.toArray⟩) ∧ w'.cell? ⟨w.heap.size + 1, 7, none⟩ = some (.slice B b.kids.length cb)))
    (first | exact ⟨Q3d.out.1.1, Q3d.out.2.1⟩ | exact ⟨Q4.out.1.1, Q4.out.2.1⟩ | exact ⟨Q5.out.1.1, Q5.out.2.1⟩ | exact ⟨Q6.out.1.1, Q6.out.2.1⟩ | exact ⟨Q7.out.1.1, Q7.out.2.1⟩ | exact ⟨Q8.out.1.1, Q8.out.2.1⟩ | exact ⟨Q9.out.1.1, Q9.out.2.1⟩ | exact ⟨Q10.out.1.1, Q10.out.2.1⟩ | exact ⟨Q11.out.1.1, Q11.out.2.1⟩ | fail)
    (first
    | (go_at_call 16; refine (SS.out _ A A ca ca Q10.out.1.2 Q10.out.1.2).mono ?_; rintro e w11 ⟨rfl, b11⟩
       have B11 : Below (w10).heap.size (w10) w11 := b11
       have H11 := Lib.hid (H10.out.trans (B11.mono H10.out.size))
       have Q11 := Lib.hid (S0 _ _ Q10.out B11)
       clear b11 B11 Q10 H10)
    | (go_at_call 8; refine (RS.out _ A B ca cb Q9.out.1.2 Q9.out.2.2).mono ?_; rintro e w10 ⟨rfl, b10⟩
       have B10 : Below (w9).heap.size (w9) w10 := b10
       have H10 := Lib.hid (H9.out.trans (B10.mono H9.out.size))
       have Q10 := Lib.hid (S0 _ _ Q9.out B10)
       clear b10 B10 Q9 H9)
    | (go_at_call 16; refine (SM.out _ A B ca cb Q8.out.1.2 Q8.out.2.2).mono ?_; rintro e w9 ⟨rfl, b9⟩
       have B9 : Below (w8).heap.size (w8) w9 := b9
       have H9 := Lib.hid (H8.out.trans (B9.mono H8.out.size))
       have Q9 := Lib.hid (S0 _ _ Q8.out B9)
       clear b9 B9 Q8 H8)
    | (go_at_call 15; refine (RD.out _ A ca Q7.out.1.2).mono ?_; rintro e w8 ⟨rfl, b8⟩
       have B8 : Below (w7).heap.size (w7) w8 := b8
       have H8 := Lib.hid (H7.out.trans (B8.mono H7.out.size))
       have Q8 := Lib.hid (S0 _ _ Q7.out B8)
       clear b8 B8 Q7 H7)
    | (go_at_call 14; refine (DA.out _ A ca Q6.out.1.2).mono ?_; rintro e w7 ⟨rfl, b7⟩
       have B7 : Below (w6).heap.size (w6) w7 := b7
       have H7 := Lib.hid (H6.out.trans (B7.mono H6.out.size))
       have Q7 := Lib.hid (S0 _ _ Q6.out B7)
       clear b7 B7 Q6 H6)
    | (go_at_call 13; refine (RP.out _ A ca Q5.out.1.2).mono ?_; rintro e w6 ⟨rfl, b6⟩
       have B6 : Below (w5).heap.size (w5) w6 := b6
       have H6 := Lib.hid (H5.out.trans (B6.mono H5.out.size))
       have Q6 := Lib.hid (S0 _ _ Q5.out B6)
       clear b6 B6 Q5 H5)
    | (go_at_call 12; refine (RR.out _ A ca Q4.out.1.2).mono ?_; rintro e w5 ⟨rfl, b5⟩
       have B5 : Below (w4).heap.size (w4) w5 := b5
       have H5 := Lib.hid (H4.out.trans (B5.mono H4.out.size))
       have Q5 := Lib.hid (S0 _ _ Q4.out B5)
       clear b5 B5 Q4 H4)
    | (go_at_call 10; refine (RI.out _ A ca Q3d.out.1.2 ((HE.out.below H3d.out).s)).mono ?_; rintro e w4 ⟨rfl, b4⟩
       have B4 : Below (w3.drew).heap.size (w3.drew) w4 := b4
       have H4 := Lib.hid (H3d.out.trans (B4.mono H3d.out.size))
       have Q4 := Lib.hid (S0 _ _ Q3d.out B4)
       clear b4 B4 Q3d H3d))
  obtain ⟨c0, c1, c2, c3, c4, c5, c6, c7⟩ := Q11.out.1.1
  go_wp2_with fail
  refine (RI.out _ A ca Q11.out.1.2 ((HE.out.below H11.out).s)).mono ?_; rintro e w12 ⟨rfl, b12⟩
  have H12 := Lib.hid (H11.out.trans (b12.mono H11.out.size))
  have Q12 := Lib.hid (S0 _ _ Q11.out b12)
  clear b12 H11 Q11 c0 c1 c2 c3 c4 c5 c6 c7
  go_wp2_with fail
  refine (salive _ (HE.out.below H12.out) (HI.out.below H12.out)).mono ?_; rintro e w13 ⟨rfl, b13⟩
  have H13 := Lib.hid (H12.out.trans (b13.mono H12.out.size))
  clear b13 H12 Q12
  go_wp2_with fail
  go_ret
  exact ⟨rfl, H13.out⟩

set_option maxHeartbeats 4000000 in
set_option maxRecDepth 10000 in
theorem tells_long (a b : Tr) (ha : Wid a) (hb : Wid b) (fa : Fit a) (ga : fitsB a = true) (gb : fitsB b = true) (hR : rightP a = true) (hZ : decide ((200 : Int) < ((⟨(printP a).toArray⟩ : ByteArray).size : Int)) = true) (w : World) (hE : EnvP w) (hI : EnvI w) (A B : Option Addr) (ca cb : Nat) (hA : KV w (fun _ => True) a A) (hB : KV w (fun _ => True) b B) :
    Calls Tryz.prog 4 #[.agg #[.int .i64 a.kind, .int .i64 a.num, .int .i64 a.c1, .int .i64 a.r1, .int .i64 a.c2, .int .i64 a.r2, .string ⟨a.word.toArray⟩, .slice A a.kids.length ca], .agg #[.int .i64 b.kind, .int .i64 b.num, .int .i64 b.c1, .int .i64 b.r1, .int .i64 b.c2, .int .i64 b.r2, .string ⟨b.word.toArray⟩, .slice B b.kids.length cb]] w (Yes w) := by
  have la := ha.len
  have lb := hb.len
  have HE := Lib.hid hE
  have HI := Lib.hid hI
  have FA := Lib.hid (fun w A ca hA => lfits_any a ha w A ca hA)
  have FB := Lib.hid (fun w A ca hA => lfits_any b hb w A ca hA)
  unfold tv at FA FB
  have PA := Lib.hid (fun w A ca hA hI hS => tprint a ha fa (fits_iff.1 ga).1 w A ca hA hI hS)
  have RP := Lib.hid (fun w A ca hA => trprint a ha fa ga w A ca hA)
  have RI := Lib.hid (fun w A ca hA hS => sright_any a ha w (fun _ => True) A ca hA w.heap.size (Nat.le_refl _) hS)
  have RR := Lib.hid (fun w A ca hA => rright_fit a ha ga w A ca hA)
  have DA := Lib.hid (fun w A ca hA => pdeep_any 40 a (fits_deep ga) (by decide) ha w (fun _ => True) A ca hA)
  have RD := Lib.hid (fun w A ca hA => rdeep_any 40 a (fits_deep ga) (by decide) ha w (fun _ => True) A ca hA)
  have SM := Lib.hid (fun w A B ca cb hA hB => psame_bool a b ha hb w A B ca cb hA hB)
  have RS := Lib.hid (fun w A B ca cb hA hB => rsame_bool a b ga ha hb w A B ca cb hA hB)
  have SS := Lib.hid (fun w A B ca cb hA hB => same_self a ha w A B ca cb hA hB)
  have hd40 := fits_deep ga
  unfold tv at PA RP RI RR DA RD SM RS
  rw [ga] at FA
  rw [gb] at FB
  rw [hR] at RI RR
  have hz := print_size fa (fits_iff.1 ga).1
  generalize (⟨(printP a).toArray⟩ : ByteArray) = Z at *
  have hde : ((deepT a : Int) != (deepT a : Int)) = false := neq_self' _
  have hme : ((sameB a b) != (sameB a b)) = false := neq_self' _
  generalize sameB a b = M at *
  clear hE hI ha hb ga gb hR fa
  unfold maxLen at la lb
  go_enter Tryz.func4, Tryz.ntmps4
  have S0 := stays_two w.heap.size a b A B ca cb
  have Q0 := Lib.hid (two_new w a b A B ca cb hA hB)
  have H0 : Hid (Below w.heap.size w ((w.alloc (valT a A ca)).alloc (valT b B cb))) := Lib.hid (belowAlloc (belowAlloc (Below.refl _ _) (Nat.le_refl _) _) (by simp) _)
  unfold valT vT at Q0 H0
  clear hA hB
  go_wp2_with fail
  refine (FA.out _ A ca Q0.out.1.2).mono ?_; rintro e w1 ⟨rfl, b1⟩
  have H1 := Lib.hid (H0.out.trans (b1.mono H0.out.size))
  have Q1 := Lib.hid (S0 _ _ Q0.out b1)
  clear b1 H0 Q0
  obtain ⟨d0, d1, d2, d3, d4, d5, d6, d7⟩ := Q1.out.2.1
  go_wp2_with fail
  refine (FB.out _ B cb Q1.out.2.2).mono ?_; rintro e w2 ⟨rfl, b2⟩
  have H2 := Lib.hid (H1.out.trans (b2.mono H1.out.size))
  have Q2 := Lib.hid (S0 _ _ Q1.out b2)
  clear b2 H1 Q1 d0 d1 d2 d3 d4 d5 d6 d7
  obtain ⟨c0, c1, c2, c3, c4, c5, c6, c7⟩ := Q2.out.1.1
  go_wp2_with fail
  refine (PA.out _ A ca Q2.out.1.2 (HI.out.below H2.out) ((HE.out.below H2.out).s)).mono ?_; rintro e w3 ⟨rfl, b3⟩
  have H3 := Lib.hid (H2.out.trans (b3.mono H2.out.size))
  have Q3 := Lib.hid (S0 _ _ Q2.out b3)
  clear b3 H2 Q2 c0 c1 c2 c3 c4 c5 c6 c7
  go_wp2_with fail
  have Q3d := Lib.hid (S0 w3 w3.drew Q3.out (Below.refl _ w3).drew)
  have H3d := Lib.hid (H3.out.drew)
  go_region_held3 (fun w' => (w'.cell? ⟨w.heap.size, 0, none⟩ = some (.int .i64 a.kind) ∧ w'.cell? ⟨w.heap.size, 1, none⟩ = some (.int .i64 a.num) ∧ w'.cell? ⟨w.heap.size, 2, none⟩ = some (.int .i64 a.c1) ∧ w'.cell? ⟨w.heap.size, 3, none⟩ = some (.int .i64 a.r1) ∧ w'.cell? ⟨w.heap.size, 4, none⟩ = some (.int .i64 a.c2) ∧ w'.cell? ⟨w.heap.size, 5, none⟩ = some (.int .i64 a.r2) ∧ w'.cell? ⟨w.heap.size, 6, none⟩ = some (.string ⟨a.word.toArray⟩) ∧ w'.cell? ⟨w.heap.size, 7, none⟩ = some (.slice A a.kids.length ca)) ∧ (w'.cell? ⟨w.heap.size + 1, 0, none⟩ = some (.int .i64 b.kind) ∧ w'.cell? ⟨w.heap.size + 1, 1, none⟩ = some (.int .i64 b.num) ∧ w'.cell? ⟨w.heap.size + 1, 2, none⟩ = some (.int .i64 b.c1) ∧ w'.cell? ⟨w.heap.size + 1, 3, none⟩ = some (.int .i64 b.r1) ∧ w'.cell? ⟨w.heap.size + 1, 4, none⟩ = some (.int .i64 b.c2) ∧ w'.cell? ⟨w.heap.size + 1, 5, none⟩ = some (.int .i64 b.r2) ∧ w'.cell? ⟨w.heap.size + 1, 6, none⟩ = some (.string ⟨b.word.toArray⟩) ∧ w'.cell? ⟨w.heap.size + 1, 7, none⟩ = some (.slice B b.kids.length cb)))
    (first | exact ⟨Q3d.out.1.1, Q3d.out.2.1⟩ | exact ⟨Q4.out.1.1, Q4.out.2.1⟩ | exact ⟨Q5.out.1.1, Q5.out.2.1⟩ | exact ⟨Q6.out.1.1, Q6.out.2.1⟩ | exact ⟨Q7.out.1.1, Q7.out.2.1⟩ | exact ⟨Q8.out.1.1, Q8.out.2.1⟩ | exact ⟨Q9.out.1.1, Q9.out.2.1⟩ | exact ⟨Q10.out.1.1, Q10.out.2.1⟩ | exact ⟨Q11.out.1.1, Q11.out.2.1⟩ | fail)
    (first
    | (go_at_call 16; refine (SS.out _ A A ca ca Q10.out.1.2 Q10.out.1.2).mono ?_; rintro e w11 ⟨rfl, b11⟩
       have B11 : Below (w10).heap.size (w10) w11 := b11
       have H11 := Lib.hid (H10.out.trans (B11.mono H10.out.size))
       have Q11 := Lib.hid (S0 _ _ Q10.out B11)
       clear b11 B11 Q10 H10)
    | (go_at_call 8; refine (RS.out _ A B ca cb Q9.out.1.2 Q9.out.2.2).mono ?_; rintro e w10 ⟨rfl, b10⟩
       have B10 : Below (w9).heap.size (w9) w10 := b10
       have H10 := Lib.hid (H9.out.trans (B10.mono H9.out.size))
       have Q10 := Lib.hid (S0 _ _ Q9.out B10)
       clear b10 B10 Q9 H9)
    | (go_at_call 16; refine (SM.out _ A B ca cb Q8.out.1.2 Q8.out.2.2).mono ?_; rintro e w9 ⟨rfl, b9⟩
       have B9 : Below (w8).heap.size (w8) w9 := b9
       have H9 := Lib.hid (H8.out.trans (B9.mono H8.out.size))
       have Q9 := Lib.hid (S0 _ _ Q8.out B9)
       clear b9 B9 Q8 H8)
    | (go_at_call 15; refine (RD.out _ A ca Q7.out.1.2).mono ?_; rintro e w8 ⟨rfl, b8⟩
       have B8 : Below (w7).heap.size (w7) w8 := b8
       have H8 := Lib.hid (H7.out.trans (B8.mono H7.out.size))
       have Q8 := Lib.hid (S0 _ _ Q7.out B8)
       clear b8 B8 Q7 H7)
    | (go_at_call 14; refine (DA.out _ A ca Q6.out.1.2).mono ?_; rintro e w7 ⟨rfl, b7⟩
       have B7 : Below (w6).heap.size (w6) w7 := b7
       have H7 := Lib.hid (H6.out.trans (B7.mono H6.out.size))
       have Q7 := Lib.hid (S0 _ _ Q6.out B7)
       clear b7 B7 Q6 H6)
    | (go_at_call 13; refine (RP.out _ A ca Q5.out.1.2).mono ?_; rintro e w6 ⟨rfl, b6⟩
       have B6 : Below (w5).heap.size (w5) w6 := b6
       have H6 := Lib.hid (H5.out.trans (B6.mono H5.out.size))
       have Q6 := Lib.hid (S0 _ _ Q5.out B6)
       clear b6 B6 Q5 H5)
    | (go_at_call 12; refine (RR.out _ A ca Q4.out.1.2).mono ?_; rintro e w5 ⟨rfl, b5⟩
       have B5 : Below (w4).heap.size (w4) w5 := b5
       have H5 := Lib.hid (H4.out.trans (B5.mono H4.out.size))
       have Q5 := Lib.hid (S0 _ _ Q4.out B5)
       clear b5 B5 Q4 H4)
    | (go_at_call 10; refine (RI.out _ A ca Q3d.out.1.2 ((HE.out.below H3d.out).s)).mono ?_; rintro e w4 ⟨rfl, b4⟩
       have B4 : Below (w3.drew).heap.size (w3.drew) w4 := b4
       have H4 := Lib.hid (H3d.out.trans (B4.mono H3d.out.size))
       have Q4 := Lib.hid (S0 _ _ Q3d.out B4)
       clear b4 B4 Q3d H3d))
  obtain ⟨c0, c1, c2, c3, c4, c5, c6, c7⟩ := Q11.out.1.1
  go_wp2_with fail
  refine (RI.out _ A ca Q11.out.1.2 ((HE.out.below H11.out).s)).mono ?_; rintro e w12 ⟨rfl, b12⟩
  have H12 := Lib.hid (H11.out.trans (b12.mono H11.out.size))
  have Q12 := Lib.hid (S0 _ _ Q11.out b12)
  clear b12 H11 Q11 c0 c1 c2 c3 c4 c5 c6 c7
  go_wp2_with fail
  refine (salive _ (HE.out.below H12.out) (HI.out.below H12.out)).mono ?_; rintro e w13 ⟨rfl, b13⟩
  have H13 := Lib.hid (H12.out.trans (b13.mono H12.out.size))
  clear b13 H12 Q12
  go_wp2_with fail
  go_ret
  exact ⟨rfl, H13.out⟩

set_option maxHeartbeats 4000000 in
set_option maxRecDepth 10000 in
theorem tells_back (a b : Tr) (ha : Wid a) (hb : Wid b) (fa : Fit a) (ga : fitsB a = true) (gb : fitsB b = true) (hR : rightP a = true) (hZ : decide ((200 : Int) < ((⟨(printP a).toArray⟩ : ByteArray).size : Int)) = false) (w : World) (hE : EnvP w) (hI : EnvI w) (A B : Option Addr) (ca cb : Nat) (hA : KV w (fun _ => True) a A) (hB : KV w (fun _ => True) b B) :
    Calls Tryz.prog 4 #[.agg #[.int .i64 a.kind, .int .i64 a.num, .int .i64 a.c1, .int .i64 a.r1, .int .i64 a.c2, .int .i64 a.r2, .string ⟨a.word.toArray⟩, .slice A a.kids.length ca], .agg #[.int .i64 b.kind, .int .i64 b.num, .int .i64 b.c1, .int .i64 b.r1, .int .i64 b.c2, .int .i64 b.r2, .string ⟨b.word.toArray⟩, .slice B b.kids.length cb]] w (Yes w) := by
  have la := ha.len
  have lb := hb.len
  have HE := Lib.hid hE
  have HI := Lib.hid hI
  have FA := Lib.hid (fun w A ca hA => lfits_any a ha w A ca hA)
  have FB := Lib.hid (fun w A ca hA => lfits_any b hb w A ca hA)
  unfold tv at FA FB
  have PA := Lib.hid (fun w A ca hA hI hS => tprint a ha fa (fits_iff.1 ga).1 w A ca hA hI hS)
  have RP := Lib.hid (fun w A ca hA => trprint a ha fa ga w A ca hA)
  have RI := Lib.hid (fun w A ca hA hS => sright_any a ha w (fun _ => True) A ca hA w.heap.size (Nat.le_refl _) hS)
  have RR := Lib.hid (fun w A ca hA => rright_fit a ha ga w A ca hA)
  have DA := Lib.hid (fun w A ca hA => pdeep_any 40 a (fits_deep ga) (by decide) ha w (fun _ => True) A ca hA)
  have RD := Lib.hid (fun w A ca hA => rdeep_any 40 a (fits_deep ga) (by decide) ha w (fun _ => True) A ca hA)
  have SM := Lib.hid (fun w A B ca cb hA hB => psame_bool a b ha hb w A B ca cb hA hB)
  have RS := Lib.hid (fun w A B ca cb hA hB => rsame_bool a b ga ha hb w A B ca cb hA hB)
  have SS := Lib.hid (fun w A B ca cb hA hB => same_self a ha w A B ca cb hA hB)
  have hd40 := fits_deep ga
  unfold tv at PA RP RI RR DA RD SM RS
  have hz := print_size fa (fits_iff.1 ga).1
  have P1 := Lib.hid (fun w => parse_goodB (s := ⟨(printP a).toArray⟩) (t := a) (by omega) (print_back fa hR (of_decide_eq_false hZ)) w)
  have SR := Lib.hid (fun w A B ca cb hA hB => rsame_self a ga ha w A B ca cb hA hB)
  rw [ga] at FA
  rw [gb] at FB
  rw [hR] at RI RR
  generalize (⟨(printP a).toArray⟩ : ByteArray) = Z at *
  have hde : ((deepT a : Int) != (deepT a : Int)) = false := neq_self' _
  have hme : ((sameB a b) != (sameB a b)) = false := neq_self' _
  generalize sameB a b = M at *
  clear hE hI ha hb ga gb hR fa
  unfold maxLen at la lb
  go_enter Tryz.func4, Tryz.ntmps4
  have S0 := stays_two w.heap.size a b A B ca cb
  have Q0 := Lib.hid (two_new w a b A B ca cb hA hB)
  have H0 : Hid (Below w.heap.size w ((w.alloc (valT a A ca)).alloc (valT b B cb))) := Lib.hid (belowAlloc (belowAlloc (Below.refl _ _) (Nat.le_refl _) _) (by simp) _)
  unfold valT vT at Q0 H0
  clear hA hB
  go_wp2_with fail
  refine (FA.out _ A ca Q0.out.1.2).mono ?_; rintro e w1 ⟨rfl, b1⟩
  have H1 := Lib.hid (H0.out.trans (b1.mono H0.out.size))
  have Q1 := Lib.hid (S0 _ _ Q0.out b1)
  clear b1 H0 Q0
  obtain ⟨d0, d1, d2, d3, d4, d5, d6, d7⟩ := Q1.out.2.1
  go_wp2_with fail
  refine (FB.out _ B cb Q1.out.2.2).mono ?_; rintro e w2 ⟨rfl, b2⟩
  have H2 := Lib.hid (H1.out.trans (b2.mono H1.out.size))
  have Q2 := Lib.hid (S0 _ _ Q1.out b2)
  clear b2 H1 Q1 d0 d1 d2 d3 d4 d5 d6 d7
  obtain ⟨c0, c1, c2, c3, c4, c5, c6, c7⟩ := Q2.out.1.1
  go_wp2_with fail
  refine (PA.out _ A ca Q2.out.1.2 (HI.out.below H2.out) ((HE.out.below H2.out).s)).mono ?_; rintro e w3 ⟨rfl, b3⟩
  have H3 := Lib.hid (H2.out.trans (b3.mono H2.out.size))
  have Q3 := Lib.hid (S0 _ _ Q2.out b3)
  clear b3 H2 Q2 c0 c1 c2 c3 c4 c5 c6 c7
  go_wp2_with fail
  have Q3d := Lib.hid (S0 w3 w3.drew Q3.out (Below.refl _ w3).drew)
  have H3d := Lib.hid (H3.out.drew)
  go_region_held3 (fun w' => (w'.cell? ⟨w.heap.size, 0, none⟩ = some (.int .i64 a.kind) ∧ w'.cell? ⟨w.heap.size, 1, none⟩ = some (.int .i64 a.num) ∧ w'.cell? ⟨w.heap.size, 2, none⟩ = some (.int .i64 a.c1) ∧ w'.cell? ⟨w.heap.size, 3, none⟩ = some (.int .i64 a.r1) ∧ w'.cell? ⟨w.heap.size, 4, none⟩ = some (.int .i64 a.c2) ∧ w'.cell? ⟨w.heap.size, 5, none⟩ = some (.int .i64 a.r2) ∧ w'.cell? ⟨w.heap.size, 6, none⟩ = some (.string ⟨a.word.toArray⟩) ∧ w'.cell? ⟨w.heap.size, 7, none⟩ = some (.slice A a.kids.length ca)) ∧ (w'.cell? ⟨w.heap.size + 1, 0, none⟩ = some (.int .i64 b.kind) ∧ w'.cell? ⟨w.heap.size + 1, 1, none⟩ = some (.int .i64 b.num) ∧ w'.cell? ⟨w.heap.size + 1, 2, none⟩ = some (.int .i64 b.c1) ∧ w'.cell? ⟨w.heap.size + 1, 3, none⟩ = some (.int .i64 b.r1) ∧ w'.cell? ⟨w.heap.size + 1, 4, none⟩ = some (.int .i64 b.c2) ∧ w'.cell? ⟨w.heap.size + 1, 5, none⟩ = some (.int .i64 b.r2) ∧ w'.cell? ⟨w.heap.size + 1, 6, none⟩ = some (.string ⟨b.word.toArray⟩) ∧ w'.cell? ⟨w.heap.size + 1, 7, none⟩ = some (.slice B b.kids.length cb)))
    (first | exact ⟨Q3d.out.1.1, Q3d.out.2.1⟩ | exact ⟨Q4.out.1.1, Q4.out.2.1⟩ | exact ⟨Q5.out.1.1, Q5.out.2.1⟩ | exact ⟨Q6.out.1.1, Q6.out.2.1⟩ | exact ⟨Q7.out.1.1, Q7.out.2.1⟩ | exact ⟨Q8.out.1.1, Q8.out.2.1⟩ | exact ⟨Q9.out.1.1, Q9.out.2.1⟩ | exact ⟨Q10.out.1.1, Q10.out.2.1⟩ | exact ⟨Q11.out.1.1, Q11.out.2.1⟩ | fail)
    (first
    | (go_at_call 16; refine (SS.out _ A A ca ca Q10.out.1.2 Q10.out.1.2).mono ?_; rintro e w11 ⟨rfl, b11⟩
       have B11 : Below (w10).heap.size (w10) w11 := b11
       have H11 := Lib.hid (H10.out.trans (B11.mono H10.out.size))
       have Q11 := Lib.hid (S0 _ _ Q10.out B11)
       clear b11 B11 Q10 H10)
    | (go_at_call 8; refine (RS.out _ A B ca cb Q9.out.1.2 Q9.out.2.2).mono ?_; rintro e w10 ⟨rfl, b10⟩
       have B10 : Below (w9).heap.size (w9) w10 := b10
       have H10 := Lib.hid (H9.out.trans (B10.mono H9.out.size))
       have Q10 := Lib.hid (S0 _ _ Q9.out B10)
       clear b10 B10 Q9 H9)
    | (go_at_call 16; refine (SM.out _ A B ca cb Q8.out.1.2 Q8.out.2.2).mono ?_; rintro e w9 ⟨rfl, b9⟩
       have B9 : Below (w8).heap.size (w8) w9 := b9
       have H9 := Lib.hid (H8.out.trans (B9.mono H8.out.size))
       have Q9 := Lib.hid (S0 _ _ Q8.out B9)
       clear b9 B9 Q8 H8)
    | (go_at_call 15; refine (RD.out _ A ca Q7.out.1.2).mono ?_; rintro e w8 ⟨rfl, b8⟩
       have B8 : Below (w7).heap.size (w7) w8 := b8
       have H8 := Lib.hid (H7.out.trans (B8.mono H7.out.size))
       have Q8 := Lib.hid (S0 _ _ Q7.out B8)
       clear b8 B8 Q7 H7)
    | (go_at_call 14; refine (DA.out _ A ca Q6.out.1.2).mono ?_; rintro e w7 ⟨rfl, b7⟩
       have B7 : Below (w6).heap.size (w6) w7 := b7
       have H7 := Lib.hid (H6.out.trans (B7.mono H6.out.size))
       have Q7 := Lib.hid (S0 _ _ Q6.out B7)
       clear b7 B7 Q6 H6)
    | (go_at_call 13; refine (RP.out _ A ca Q5.out.1.2).mono ?_; rintro e w6 ⟨rfl, b6⟩
       have B6 : Below (w5).heap.size (w5) w6 := b6
       have H6 := Lib.hid (H5.out.trans (B6.mono H5.out.size))
       have Q6 := Lib.hid (S0 _ _ Q5.out B6)
       clear b6 B6 Q5 H5)
    | (go_at_call 12; refine (RR.out _ A ca Q4.out.1.2).mono ?_; rintro e w5 ⟨rfl, b5⟩
       have B5 : Below (w4).heap.size (w4) w5 := b5
       have H5 := Lib.hid (H4.out.trans (B5.mono H4.out.size))
       have Q5 := Lib.hid (S0 _ _ Q4.out B5)
       clear b5 B5 Q4 H4)
    | (go_at_call 10; refine (RI.out _ A ca Q3d.out.1.2 ((HE.out.below H3d.out).s)).mono ?_; rintro e w4 ⟨rfl, b4⟩
       have B4 : Below (w3.drew).heap.size (w3.drew) w4 := b4
       have H4 := Lib.hid (H3d.out.trans (B4.mono H3d.out.size))
       have Q4 := Lib.hid (S0 _ _ Q3d.out B4)
       clear b4 B4 Q3d H3d))
  obtain ⟨c0, c1, c2, c3, c4, c5, c6, c7⟩ := Q11.out.1.1
  go_wp2_with fail
  refine (RI.out _ A ca Q11.out.1.2 ((HE.out.below H11.out).s)).mono ?_; rintro e w12 ⟨rfl, b12⟩
  have H12 := Lib.hid (H11.out.trans (b12.mono H11.out.size))
  have Q12 := Lib.hid (S0 _ _ Q11.out b12)
  clear b12 H11 Q11 c0 c1 c2 c3 c4 c5 c6 c7
  go_wp2_with fail
  refine (P1.out _ (HE.out.below H12.out)).mono ?_; rintro e v1 ⟨C, cc, rfl, kc, b1⟩
  have G1 := Lib.hid (belowAlloc (H12.out.trans (b1.mono H12.out.size)) (Nat.le_trans H12.out.size b1.size) (valT a C cc))
  have T1 := S0.and ((stays_here v1.heap.size a C cc).and (stays_kv a C))
  have R1 := Lib.hid (And.intro (S0.al (S0 _ _ Q12.out b1) (valT a C cc)) (And.intro (show Here (v1.alloc (valT a C cc)) v1.heap.size a C cc from Here.new v1 a C cc) ((stays_kv a C).al kc (valT a C cc))))
  clear b1 kc H12 Q12
  unfold valT vT at G1 R1
  obtain ⟨c0, c1, c2, c3, c4, c5, c6, c7⟩ := R1.out.1.1.1
  obtain ⟨d0, d1, d2, d3, d4, d5, d6, d7⟩ := R1.out.2.1
  go_wp2_with fail
  refine (SR.out _ A C ca cc R1.out.1.1.2 R1.out.2.2).mono ?_; rintro e v2 ⟨rfl, b2⟩
  have G2 := Lib.hid (G1.out.trans (b2.mono G1.out.size))
  clear b2 G1 R1 c0 c1 c2 c3 c4 c5 c6 c7 d0 d1 d2 d3 d4 d5 d6 d7
  go_wp2_with fail
  refine (salive _ (HE.out.below G2.out) (HI.out.below G2.out)).mono ?_; rintro e v3 ⟨rfl, b3⟩
  have G3 := Lib.hid (G2.out.trans (b3.mono G2.out.size))
  clear b3 G2
  go_wp2_with fail
  go_ret
  exact ⟨rfl, G3.out⟩

theorem tells_any (a b : Tr) (ha : Wid a) (hb : Wid b) (fa : Fit a) (w : World) (hE : EnvP w) (hI : EnvI w) (A B : Option Addr) (ca cb : Nat) (hA : KV w (fun _ => True) a A) (hB : KV w (fun _ => True) b B) :
    Calls Tryz.prog 4 #[tv a A ca, tv b B cb] w (Yes w) := by
  unfold tv
  cases ga : fitsB a with
  | false => exact tells_out1 a b ha hb ga w hE hI A B ca cb hA hB
  | true =>
    cases gb : fitsB b with
    | false => exact tells_out2 a b ha hb ga gb w hE hI A B ca cb hA hB
    | true =>
      cases hR : rightP a with
      | false => exact tells_no a b ha hb fa ga gb hR w hE hI A B ca cb hA hB
      | true =>
        cases hZ : decide ((200 : Int) < ((⟨(printP a).toArray⟩ : ByteArray).size : Int)) with
        | true => exact tells_long a b ha hb fa ga gb hR hZ w hE hI A B ca cb hA hB
        | false => exact tells_back a b ha hb fa ga gb hR hZ w hE hI A B ca cb hA hB
end Go.Proofs.YtahdlijkohmdfaaGreatDoor
/- Trees as arguments: opened. -/
namespace Go.Proofs.YtahdlijkohmdfaaGreatDoor
open Go.ChangeShapes Go.WideShapes Go.RowKit Go.Deep

theorem laidOutT : laidOutB Tryz.prog = true := by kernel_rfl
theorem cells_tree : Tryz.prog.cellsOf 30 = 8 := by kernel_rfl
theorem cells_kind : Tryz.prog.cellsOf 23 = 1 := by kernel_rfl
theorem cells_int : Tryz.prog.cellsOf 3 = 1 := by kernel_rfl
theorem cells_range : Tryz.prog.cellsOf 27 = 4 := by kernel_rfl
theorem cells_place : Tryz.prog.cellsOf 25 = 2 := by kernel_rfl
theorem cells_str : Tryz.prog.cellsOf 9 = 1 := by kernel_rfl
theorem cells_kids : Tryz.prog.cellsOf 28 = 1 := by kernel_rfl
def leaf0 : Tr := .mk 2 0 0 0 0 0 [] []
section
variable {H : Type} {enc : TypeId × Value → H} {w : World} {base : Nat} {spare : Nat → Bool} {held : Bool}
theorem trodPlace {fuel : Nat} {cs : List Value} {x : DataW H × List MemPlace} (hl : cs.length = 2) (h : DataW.trod enc Tryz.prog w base spare held fuel 25 cs = some x) :
    ∃ a b : Int, cs = [.int .i64 a, .int .i64 b] := by
  match cs, hl with
  | [c0, c1], _ =>
    obtain ⟨y0, y1, n, rfl, _, hy0, hy1⟩ := trod_struct2 Tryz.underlying25 h
    simp only [cells_int] at hy0 hy1
    obtain ⟨a, e0, rfl, wa⟩ := DataW.trod_int Tryz.underlying3 hy0
    obtain ⟨b, e1, rfl, wb⟩ := DataW.trod_int Tryz.underlying3 hy1
    simp at e0 e1
    subst e0 e1
    exact ⟨a, b, rfl⟩
theorem le_of_wf {n : Int} (h : (Lit.int .i64 n).wf = true) : n ≤ 9223372036854775807 := by
  have e1 : IntKind.i64.min = -9223372036854775808 := rfl
  have e2 : IntKind.i64.max = 9223372036854775807 := rfl
  simp [Lit.wf, e1, e2] at h
  exact h.2
theorem words_of (s : ByteArray) : s = ⟨s.data.toList.toArray⟩ := by cases s; simp
set_option maxRecDepth 100000 in
set_option maxHeartbeats 2000000 in
/-- A TREE, OPENED. -/
theorem tree_of_trod : ∀ (fuel : Nat) {cs : List Value} {x : DataW H × List MemPlace}, DataW.trod enc Tryz.prog w base spare held fuel 30 cs = some x →
    ∃ (t : Tr) (A : Option Addr) (cap : Nat), cs = [.int .i64 t.kind, .int .i64 t.num, .int .i64 t.c1, .int .i64 t.r1, .int .i64 t.c2, .int .i64 t.r2, .string ⟨t.word.toArray⟩, .slice A t.kids.length cap] ∧ KV w (fun _ => True) t A ∧ Wid t ∧ Fit t := by
  intro fuel
  induction fuel using Nat.strongRecOn with
  | ind fuel ih =>
  intro cs x h
  obtain ⟨xs, n, rfl, rfl, hcl, hxl, hf⟩ := DataW.trod_struct Tryz.underlying30 h
  rw [cells_tree] at hcl
  obtain ⟨c0, c1, c2, c3, c4, c5, c6, c7, rfl⟩ : ∃ c0 c1 c2 c3 c4 c5 c6 c7, cs = [c0, c1, c2, c3, c4, c5, c6, c7] := by
    match cs, hcl with
    | [a, b, c, d, e, f, g, h], _ => exact ⟨a, b, c, d, e, f, g, h, rfl⟩
  match xs, hxl with
  | [y0, y1, y2, y3, y4], _ =>
  have g0 : DataW.trod enc Tryz.prog w base spare held n 23 [c0] = some y0 := by have := hf 0 _ rfl; rw [show ∀ z : TypeId, z = 23 → Tryz.prog.cellsOf z = 1 from fun z hz => by rw [hz]; exact cells_kind] at this; exact this; rfl
  have g1 : DataW.trod enc Tryz.prog w base spare held n 3 [c1] = some y1 := by have := hf 1 _ rfl; rw [show ∀ z : TypeId, z = 3 → Tryz.prog.cellsOf z = 1 from fun z hz => by rw [hz]; exact cells_int] at this; exact this; rfl
  have g2 : DataW.trod enc Tryz.prog w base spare held n 27 [c2, c3, c4, c5] = some y2 := by have := hf 2 _ rfl; rw [show ∀ z : TypeId, z = 27 → Tryz.prog.cellsOf z = 4 from fun z hz => by rw [hz]; exact cells_range] at this; exact this; rfl
  have g3 : DataW.trod enc Tryz.prog w base spare held n 9 [c6] = some y3 := by have := hf 3 _ rfl; rw [show ∀ z : TypeId, z = 9 → Tryz.prog.cellsOf z = 1 from fun z hz => by rw [hz]; exact cells_str] at this; exact this; rfl
  have g4 : DataW.trod enc Tryz.prog w base spare held n 28 [c7] = some y4 := by have := hf 4 _ rfl; rw [show ∀ z : TypeId, z = 28 → Tryz.prog.cellsOf z = 1 from fun z hz => by rw [hz]; exact cells_kids] at this; exact this; rfl
  clear h hf
  obtain ⟨k, e0, _, _⟩ := DataW.trod_int Tryz.underlying23 g0
  obtain ⟨m, e1, _, wm⟩ := DataW.trod_int Tryz.underlying3 g1
  obtain ⟨p0, p1, n2, _, _, h0, h1⟩ := trod_struct2 Tryz.underlying27 g2
  simp only [cells_place] at h0 h1
  obtain ⟨a, b, e2⟩ := trodPlace rfl h0
  obtain ⟨c, d, e3⟩ := trodPlace rfl h1
  obtain ⟨s, e4, _, _⟩ := DataW.trod_string Tryz.underlying9 g3
  simp at e0 e1 e2 e3 e4
  obtain ⟨rfl, rfl⟩ := e2
  obtain ⟨rfl, rfl⟩ := e3
  subst e0 e1 e4
  have hm := le_of_wf wm
  clear g0 g1 g2 g3 h0 h1
  rcases DataW.trod_slice Tryz.underlying28 g4 with ⟨e5, _⟩ | ⟨ad, len, cap, el, rs, n4, rfl, e5, _, _, hlc, hcm, hel, helem, _, _⟩
  · simp at e5
    subst e5
    exact ⟨.mk k m a b c d s.data.toList [], none, 0, by simp [Tr.kind, Tr.num, Tr.c1, Tr.r1, Tr.c2, Tr.r2, Tr.word, Tr.kids], KV.mk (.inl rfl), .mk (Nat.zero_le _) (fun t ht => by cases ht), .mk hm (fun t ht => by cases ht)⟩
  · simp at e5
    subst e5
    have key : ∀ i, i < len → ∃ q : Tr × Option Addr × Nat, (w.cell? (ad.add (i * 8)) = some (.int .i64 q.1.kind) ∧ w.cell? (ad.add (i * 8 + 1)) = some (.int .i64 q.1.num) ∧ w.cell? (ad.add (i * 8 + 2)) = some (.int .i64 q.1.c1) ∧ w.cell? (ad.add (i * 8 + 3)) = some (.int .i64 q.1.r1) ∧
        w.cell? (ad.add (i * 8 + 4)) = some (.int .i64 q.1.c2) ∧ w.cell? (ad.add (i * 8 + 5)) = some (.int .i64 q.1.r2) ∧ w.cell? (ad.add (i * 8 + 6)) = some (.string ⟨q.1.word.toArray⟩) ∧ w.cell? (ad.add (i * 8 + 7)) = some (.slice q.2.1 q.1.kids.length q.2.2)) ∧ KV w (fun _ => True) q.1 q.2.1 ∧ Wid q.1 ∧ Fit q.1 := by
      intro i hi
      have h1 := helem i hi
      rw [cells_tree] at h1
      obtain ⟨y, hy⟩ : ∃ y, el[i]? = some y := ⟨el[i]'(by omega), List.getElem?_eq_getElem (by omega)⟩
      rw [hy] at h1
      obtain ⟨ce, hce, hte⟩ := Option.bind_eq_some_iff.1 h1
      obtain ⟨t, A, ca, rfl, hk, hw, hfi⟩ := ih n4 (by omega) hte
      obtain ⟨_, _, hcell⟩ := World.cells?_some hce
      refine ⟨(t, A, ca), ⟨?_, ?_, ?_, ?_, ?_, ?_, ?_, ?_⟩, hk, hw, hfi⟩
      · have := hcell 0 (by omega); rw [add_add] at this; simpa using this
      · have := hcell 1 (by omega); rw [add_add] at this; simpa using this
      · have := hcell 2 (by omega); rw [add_add] at this; simpa using this
      · have := hcell 3 (by omega); rw [add_add] at this; simpa using this
      · have := hcell 4 (by omega); rw [add_add] at this; simpa using this
      · have := hcell 5 (by omega); rw [add_add] at this; simpa using this
      · have := hcell 6 (by omega); rw [add_add] at this; simpa using this
      · have := hcell 7 (by omega); rw [add_add] at this; simpa using this
    haveI : Inhabited (Tr × Option Addr × Nat) := ⟨(leaf0, none, 0)⟩
    obtain ⟨Q, hQ⟩ := choose_lt key
    have hlen : ((List.range len).map fun i => (Q i).1).length = len := by simp
    refine ⟨.mk k m a b c d s.data.toList ((List.range len).map fun i => (Q i).1), some ad, cap, by simp [Tr.kind, Tr.num, Tr.c1, Tr.r1, Tr.c2, Tr.r2, Tr.word, Tr.kids], KV.mk ?_, .mk (by rw [hlen]; omega) (fun t ht => ?_), .mk hm (fun t ht => ?_)⟩
    · by_cases hz : len = 0
      · left; subst hz; rfl
      · right
        obtain ⟨g, o, spot⟩ := ad
        have h00 := (hQ 0 (by omega)).1.1
        have hspot : spot = none := by simpa [Addr.add] using World.cell?_spot h00
        subst hspot
        refine ⟨g, o, rfl, trivial, ?_, KL.of fun i t hi => ?_⟩
        · rw [add_plain] at h00
          exact Lib.lt_of_cell h00
        · have hi' : ((List.range len).map fun i => (Q i).1)[i]? = some t := hi
          have hlt : i < len := by
            have := (List.getElem?_eq_some_iff.1 hi').1
            simpa using this
          have hq : (Q i).1 = t := by simpa [hlt] using hi'
          obtain ⟨⟨q0, q1, q2, q3, q4, q5, q6, q7⟩, hk, _, _⟩ := hQ i hlt
          rw [add_plain] at q0 q1 q2 q3 q4 q5 q6 q7
          rw [hq] at q0 q1 q2 q3 q4 q5 q6 q7 hk
          refine ⟨(Q i).2.1, (Q i).2.2, ?_, hk⟩
          rw [Nat.mul_comm 8 i]
          exact ⟨q0, q1, q2, q3, q4, q5, q6, q7⟩
    · obtain ⟨i, hi, rfl⟩ := List.mem_map.1 ht
      exact (hQ i (by simpa using hi)).2.2.1
    · obtain ⟨i, hi, rfl⟩ := List.mem_map.1 ht
      exact (hQ i (by simpa using hi)).2.2.2
set_option maxRecDepth 100000 in
/-- A TREE AS AN ARGUMENT. -/
theorem open_tree {r : Reach} {b0 : Nat} {v : Value} {d : DataW H} {p : List MemPlace} (hv : Value.okWide Tryz.prog w r b0 30 v) (h : DataW.Trod enc Tryz.prog w base spare held 30 v d p) :
    ∃ (t : Tr) (A : Option Addr) (cap : Nat), v = tv t A cap ∧ KV w (fun _ => True) t A ∧ Wid t ∧ Fit t := by
  obtain ⟨cs, rfl, hsz⟩ := okWide_struct Tryz.underlying30 hv
  obtain ⟨fuel, hf⟩ := h
  obtain ⟨t, A, cap, he, hk, hw, hfi⟩ := tree_of_trod fuel hf
  refine ⟨t, A, cap, ?_, hk, hw, hfi⟩
  unfold tv
  obtain ⟨l⟩ := cs
  simp [Value.cells] at he
  rw [he]
end
end Go.Proofs.YtahdlijkohmdfaaGreatDoor
