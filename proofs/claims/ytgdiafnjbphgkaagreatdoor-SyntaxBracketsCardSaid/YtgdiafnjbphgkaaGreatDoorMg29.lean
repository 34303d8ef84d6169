/- Texts joined: BkC, BkD, BkE, BkF. -/
import Derived.Test.YtgdiafnjbphgkaaGreatDoorMg28
set_option linter.all false
set_option linter.unusedVariables false
set_option linter.unusedSimpArgs false
/- Brackets: the statement's walk: a tree as deep as may be. -/
namespace Go.Proofs.YtgdiafnjbphgkaaGreatDoor
open Go.RowKit

set_option maxHeartbeats 4000000 in
set_option maxRecDepth 10000 in
theorem brackets_deep1 (s t : ByteArray) (n : Int) (hn : 0 ≤ n ∧ n ≤ 255) (hs : decide ((60 : Int) < (s.size : Int)) = false) (hs2 : s.size ≤ 60) (ht : decide ((60 : Int) < (t.size : Int)) = false) (ht2 : t.size ≤ 60) {a b : Tr} (ha : parseL s.data.toList = .good a) (hb : parseL t.data.toList = .good b) (hd : 15 < deepT a) (w : World) (hE : EnvP w) (hI : EnvI w) :
    Calls Tryz.prog 5 #[.string s, .string t, .int .u8 n] w (Yes w) := by
  have pa := parse_parsed ha
  have pb := parse_parsed hb
  have la := pa.wid.len
  have lb := pb.wid.len
  have hls : s.data.toList.length = s.size := len_of s
  have hlt : t.data.toList.length = t.size := len_of t
  have HE := Lib.hid hE
  have HI := Lib.hid hI
  obtain ⟨hn0, hn1⟩ := hn
  obtain ⟨o, hop, hlv, hol⟩ := op_at n hn0
  have hos : o.data.toList.length = o.size := len_of o
  have P1 := Lib.hid (fun w => parse_goodB (s := s) (by omega) ha w)
  have P2 := Lib.hid (fun w => parse_goodB (s := t) (by omega) hb w)
  have P3 := Lib.hid (fun w => parse_goodB (s := (⟨#[32, 40, 32]⟩ : ByteArray) ++ s ++ (⟨#[32, 41, 32]⟩ : ByteArray)) (t := a) (brk_size s hs2) (by rw [brk_data]; exact parse_brk ha (by omega)) w)
  have P4 := Lib.hid (fun w => parse_failB (s := (⟨#[45, 40]⟩ : ByteArray) ++ s ++ (⟨#[41]⟩ : ByteArray)) (a := 0) (c := 6) (neg_size s hs2) (by rw [neg_data, parse_neg ha (by omega), if_pos hd]) w)
  have P5 := Lib.hid (fun w => parse_failB (s := (⟨#[40]⟩ : ByteArray) ++ s ++ (⟨#[41]⟩ : ByteArray) ++ o ++ (⟨#[40]⟩ : ByteArray) ++ t ++ (⟨#[41]⟩ : ByteArray)) (a := 0) (c := 6) (op_size o s t (by omega) hs2 ht2) (by rw [op_data, parse_op hlv hol ha (by omega) hb (by omega), if_pos (.inl hd)]) w)
  have SS := Lib.hid (fun w A B ca cb hA hB => same_self a pa.wid w A B ca cb hA hB)
  have DD := Lib.hid (fun w A ca hA => deep_any a pa.deep pa.wid w A ca hA)
  have hdd : decide ((15 : Int) < (deepT a : Int)) = true := decide_eq_true (by omega)
  have hd16 := pa.deep
  have hos2 : o.size ≤ 2 := by omega
  clear hE hI ha hb pa pb hlv hls hlt hol hos
  unfold maxLen at la lb
  go_enter Tryz.func5, Tryz.ntmps5
  go_wp2_with fail
  refine (P1.out _ HE.out).mono ?_; rintro e w1 ⟨A, ca, rfl, ka, b1⟩
  have H1 := Lib.hid (belowAlloc b1 b1.size (valT a A ca))
  have S1 := ((stays_here w1.heap.size a A ca).and (stays_kv a A))
  have Q1 : Hid (Here (w1.alloc (valT a A ca)) w1.heap.size a A ca ∧ KV (w1.alloc (valT a A ca)) (fun _ => True) a A) := Lib.hid ⟨Here.new w1 a A ca, (stays_kv a A).al ka _⟩
  clear b1 ka
  unfold valT vT at H1 Q1
  go_wp2_with fail
  refine (P2.out _ (HE.out.below H1.out)).mono ?_; rintro e w2 ⟨B, cb, rfl, kb, b2⟩
  have H2 := Lib.hid (belowAlloc (H1.out.trans (b2.mono H1.out.size)) (Nat.le_trans H1.out.size b2.size) (valT b B cb))
  have Q2 := Lib.hid (S1.al (S1 _ _ Q1.out b2) (valT b B cb))
  have H2' := Lib.hid (belowAlloc H2.out H2.out.size (.cells #[.string ⟨#[43]⟩, .string ⟨#[45]⟩, .string ⟨#[42]⟩, .string ⟨#[47]⟩, .string ⟨#[60]⟩, .string ⟨#[60, 61]⟩, .string ⟨#[61]⟩, .string ⟨#[60, 62]⟩, .string ⟨#[62, 61]⟩, .string ⟨#[62]⟩] 9))
  have Q2' := Lib.hid (S1.al Q2.out (.cells #[.string ⟨#[43]⟩, .string ⟨#[45]⟩, .string ⟨#[42]⟩, .string ⟨#[47]⟩, .string ⟨#[60]⟩, .string ⟨#[60, 61]⟩, .string ⟨#[61]⟩, .string ⟨#[60, 62]⟩, .string ⟨#[62, 61]⟩, .string ⟨#[62]⟩] 9))
  clear b2 kb H1 Q1 H2 Q2
  unfold valT vT at H2' Q2'
  go_wp2_with fail
  refine (P3.out _ (HE.out.below H2'.out)).mono ?_; rintro e w3 ⟨C, cc, rfl, kc, b3⟩
  have H3 := Lib.hid (belowAlloc (H2'.out.trans (b3.mono H2'.out.size)) (Nat.le_trans H2'.out.size b3.size) (valT a C cc))
  have S3 := S1.and ((stays_here w3.heap.size a C cc).and (stays_kv a C))
  have Q3 : Hid ((Here (w3.alloc (valT a C cc)) w1.heap.size a A ca ∧ KV (w3.alloc (valT a C cc)) (fun _ => True) a A) ∧ Here (w3.alloc (valT a C cc)) w3.heap.size a C cc ∧ KV (w3.alloc (valT a C cc)) (fun _ => True) a C) := Lib.hid ⟨S1.al (S1 _ _ Q2'.out b3) _, Here.new w3 a C cc, (stays_kv a C).al kc _⟩
  clear b3 kc H2' Q2'
  unfold valT vT at H3 Q3
  go_wp2_with fail
  refine (P4.out _ (HE.out.below H3.out)).mono ?_; rintro e w4 ⟨rfl, b4⟩
  have H4 := Lib.hid (belowAlloc (H3.out.trans (b4.mono H3.out.size)) (Nat.le_trans H3.out.size b4.size) zeroT)
  have Q4 := Lib.hid (S3.al (S3 _ _ Q3.out b4) zeroT)
  clear b4 H3 Q3
  unfold zeroT at H4 Q4
  go_wp2_with fail
  refine (P5.out _ (HE.out.below H4.out)).mono ?_; rintro e w5 ⟨rfl, b5⟩
  have H5 := Lib.hid (belowAlloc (H4.out.trans (b5.mono H4.out.size)) (Nat.le_trans H4.out.size b5.size) zeroT)
  have Q5 := Lib.hid (S3.al (S3 _ _ Q4.out b5) zeroT)
  clear b5 H4 Q4
  unfold zeroT at H5 Q5
  obtain ⟨c0, c1, c2, c3, c4, c5, c6, c7⟩ := Q5.out.1.1
  go_wp2_with fail
  refine (DD.out _ A ca Q5.out.1.2).mono ?_; rintro e w6 ⟨rfl, b6⟩
  have H6 := Lib.hid (H5.out.trans (b6.mono H5.out.size))
  have Q6 := Lib.hid (S3 _ _ Q5.out b6)
  clear b6 H5 Q5 c0 c1 c2 c3 c4 c5 c6 c7
  go_wp2_with fail
  refine (salive _ (HE.out.below H6.out) (HI.out.below H6.out)).mono ?_; rintro e w7 ⟨rfl, b7⟩
  have H7 := Lib.hid (H6.out.trans (b7.mono H6.out.size))
  have Q7 := Lib.hid (S3 _ _ Q6.out b7)
  clear b7 H6 Q6
  obtain ⟨c0, c1, c2, c3, c4, c5, c6, c7⟩ := Q7.out.1.1
  obtain ⟨d0, d1, d2, d3, d4, d5, d6, d7⟩ := Q7.out.2.1
  go_wp2_with fail
  refine (SS.out _ A C ca cc Q7.out.1.2 Q7.out.2.2).mono ?_; rintro e w8 ⟨rfl, b8⟩
  have H8 := Lib.hid (H7.out.trans (b8.mono H7.out.size))
  clear b8 H7 Q7 c0 c1 c2 c3 c4 c5 c6 c7 d0 d1 d2 d3 d4 d5 d6 d7
  go_wp2_with fail
  go_ret
  exact ⟨rfl, H8.out⟩
end Go.Proofs.YtgdiafnjbphgkaaGreatDoor
/- Brackets: the statement's walk: the second tree as deep as may be. -/
namespace Go.Proofs.YtgdiafnjbphgkaaGreatDoor
open Go.RowKit

set_option maxHeartbeats 4000000 in
set_option maxRecDepth 10000 in
theorem brackets_deep2 (s t : ByteArray) (n : Int) (hn : 0 ≤ n ∧ n ≤ 255) (hs : decide ((60 : Int) < (s.size : Int)) = false) (hs2 : s.size ≤ 60) (ht : decide ((60 : Int) < (t.size : Int)) = false) (ht2 : t.size ≤ 60) {a b : Tr} (ha : parseL s.data.toList = .good a) (hb : parseL t.data.toList = .good b) (hd : ¬ 15 < deepT a) (hd2 : 15 < deepT b) (w : World) (hE : EnvP w) (hI : EnvI w) :
    Calls Tryz.prog 5 #[.string s, .string t, .int .u8 n] w (Yes w) := by
  have pa := parse_parsed ha
  have pb := parse_parsed hb
  have la := pa.wid.len
  have lb := pb.wid.len
  have hls : s.data.toList.length = s.size := len_of s
  have hlt : t.data.toList.length = t.size := len_of t
  have HE := Lib.hid hE
  have HI := Lib.hid hI
  obtain ⟨hn0, hn1⟩ := hn
  obtain ⟨o, hop, hlv, hol⟩ := op_at n hn0
  have hos : o.data.toList.length = o.size := len_of o
  have P1 := Lib.hid (fun w => parse_goodB (s := s) (by omega) ha w)
  have P2 := Lib.hid (fun w => parse_goodB (s := t) (by omega) hb w)
  have P3 := Lib.hid (fun w => parse_goodB (s := (⟨#[32, 40, 32]⟩ : ByteArray) ++ s ++ (⟨#[32, 41, 32]⟩ : ByteArray)) (t := a) (brk_size s hs2) (by rw [brk_data]; exact parse_brk ha (by omega)) w)
  have P4 := Lib.hid (fun w => parse_negB (s := (⟨#[45, 40]⟩ : ByteArray) ++ s ++ (⟨#[41]⟩ : ByteArray)) (a := a) (neg_size s hs2) (by rw [neg_data, parse_neg ha (by omega), if_neg hd]) w)
  have P5 := Lib.hid (fun w => parse_failB (s := (⟨#[40]⟩ : ByteArray) ++ s ++ (⟨#[41]⟩ : ByteArray) ++ o ++ (⟨#[40]⟩ : ByteArray) ++ t ++ (⟨#[41]⟩ : ByteArray)) (a := 0) (c := 6) (op_size o s t (by omega) hs2 ht2) (by rw [op_data, parse_op hlv hol ha (by omega) hb (by omega), if_pos (.inr hd2)]) w)
  have SS := Lib.hid (fun w A B ca cb hA hB => same_self a pa.wid w A B ca cb hA hB)
  have DD := Lib.hid (fun w A ca hA => deep_any a pa.deep pa.wid w A ca hA)
  have DB := Lib.hid (fun w A ca hA => deep_any b pb.deep pb.wid w A ca hA)
  have hdd : decide ((15 : Int) < (deepT a : Int)) = false := decide_eq_false (by omega)
  have hdb : decide ((15 : Int) < (deepT b : Int)) = true := decide_eq_true (by omega)
  have hd16 := pa.deep
  have hd17 := pb.deep
  have hos2 : o.size ≤ 2 := by omega
  clear hE hI ha hb pa pb hlv hls hlt hol hos
  unfold maxLen at la lb
  go_enter Tryz.func5, Tryz.ntmps5
  go_wp2_with fail
  refine (P1.out _ HE.out).mono ?_; rintro e w1 ⟨A, ca, rfl, ka, b1⟩
  have H1 := Lib.hid (belowAlloc b1 b1.size (valT a A ca))
  have S1 := ((stays_here w1.heap.size a A ca).and (stays_kv a A))
  have Q1 : Hid (Here (w1.alloc (valT a A ca)) w1.heap.size a A ca ∧ KV (w1.alloc (valT a A ca)) (fun _ => True) a A) := Lib.hid ⟨Here.new w1 a A ca, (stays_kv a A).al ka _⟩
  clear b1 ka
  unfold valT vT at H1 Q1
  go_wp2_with fail
  refine (P2.out _ (HE.out.below H1.out)).mono ?_; rintro e w2 ⟨B, cb, rfl, kb, b2⟩
  have H2 := Lib.hid (belowAlloc (H1.out.trans (b2.mono H1.out.size)) (Nat.le_trans H1.out.size b2.size) (valT b B cb))
  have S2 := S1.and ((stays_here w2.heap.size b B cb).and (stays_kv b B))
  have Q2 : Hid ((Here (w2.alloc (valT b B cb)) w1.heap.size a A ca ∧ KV (w2.alloc (valT b B cb)) (fun _ => True) a A) ∧ Here (w2.alloc (valT b B cb)) w2.heap.size b B cb ∧ KV (w2.alloc (valT b B cb)) (fun _ => True) b B) := Lib.hid ⟨S1.al (S1 _ _ Q1.out b2) _, Here.new w2 b B cb, (stays_kv b B).al kb _⟩
  have H2' := Lib.hid (belowAlloc H2.out H2.out.size (.cells #[.string ⟨#[43]⟩, .string ⟨#[45]⟩, .string ⟨#[42]⟩, .string ⟨#[47]⟩, .string ⟨#[60]⟩, .string ⟨#[60, 61]⟩, .string ⟨#[61]⟩, .string ⟨#[60, 62]⟩, .string ⟨#[62, 61]⟩, .string ⟨#[62]⟩] 9))
  have Q2' := Lib.hid (S2.al Q2.out (.cells #[.string ⟨#[43]⟩, .string ⟨#[45]⟩, .string ⟨#[42]⟩, .string ⟨#[47]⟩, .string ⟨#[60]⟩, .string ⟨#[60, 61]⟩, .string ⟨#[61]⟩, .string ⟨#[60, 62]⟩, .string ⟨#[62, 61]⟩, .string ⟨#[62]⟩] 9))
  clear b2 kb H1 Q1 H2 Q2
  unfold valT vT at H2' Q2'
  go_wp2_with fail
  refine (P3.out _ (HE.out.below H2'.out)).mono ?_; rintro e w3 ⟨C, cc, rfl, kc, b3⟩
  have H3 := Lib.hid (belowAlloc (H2'.out.trans (b3.mono H2'.out.size)) (Nat.le_trans H2'.out.size b3.size) (valT a C cc))
  have S3 := S2.and ((stays_here w3.heap.size a C cc).and (stays_kv a C))
  have Q3 := Lib.hid (And.intro (S2.al (S2 _ _ Q2'.out b3) (valT a C cc)) (And.intro (show Here (w3.alloc (valT a C cc)) w3.heap.size a C cc from Here.new w3 a C cc) ((stays_kv a C).al kc (valT a C cc))))
  clear b3 kc H2' Q2'
  unfold valT vT at H3 Q3
  go_wp2_with fail
  refine (P4.out _ (HE.out.below H3.out)).mono ?_; rintro e w4 ⟨g, u, cd, D, dd, rfl, k4, kd, b4⟩
  have H4 := Lib.hid (belowAlloc (H3.out.trans (b4.mono H3.out.size)) (Nat.le_trans H3.out.size b4.size) (vT 3 0 0 0 0 0 ⟨#[]⟩ (some ⟨g, u, none⟩) 1 cd))
  have S4 := S3.and ((stays_at8 g u a D dd).and (stays_kv a D))
  have Q4 := Lib.hid (S4.al ⟨S3 _ _ Q3.out b4, k4, kd⟩ (vT 3 0 0 0 0 0 ⟨#[]⟩ (some ⟨g, u, none⟩) 1 cd))
  have E4 : Hid (((w4.alloc (vT 3 0 0 0 0 0 ⟨#[]⟩ (some ⟨g, u, none⟩) 1 cd)).cell? ⟨w4.heap.size, 7, none⟩ = some (.slice (some ⟨g, u, none⟩) 1 cd)) ∧ ((w4.alloc (vT 3 0 0 0 0 0 ⟨#[]⟩ (some ⟨g, u, none⟩) 1 cd)).cell? ⟨w4.heap.size, 0, none⟩ = some (.int .i64 3))) := Lib.hid ⟨(cells8_of (heap_alloc_new w4 _)).2.2.2.2.2.2.2, (cells8_of (heap_alloc_new w4 _)).1⟩
  clear b4 H3 Q3 k4 kd
  unfold vT at H4 Q4 E4
  go_wp2_with fail
  refine (P5.out _ (HE.out.below H4.out)).mono ?_; rintro e w5 ⟨rfl, b5⟩
  have H5 := Lib.hid (belowAlloc (H4.out.trans (b5.mono H4.out.size)) (Nat.le_trans H4.out.size b5.size) zeroT)
  have Q5 := Lib.hid (S3.al (S3 _ _ Q4.out.1 b5) zeroT)
  clear b5 H4 Q4 E4
  unfold zeroT at H5 Q5
  obtain ⟨c0, c1, c2, c3, c4, c5, c6, c7⟩ := Q5.out.1.1.1
  go_wp2_with fail
  refine (DD.out _ A ca Q5.out.1.1.2).mono ?_; rintro e w6 ⟨rfl, b6⟩
  have H6 := Lib.hid (H5.out.trans (b6.mono H5.out.size))
  have Q6 := Lib.hid (S3 _ _ Q5.out b6)
  clear b6 H5 Q5 c0 c1 c2 c3 c4 c5 c6 c7
  obtain ⟨c0, c1, c2, c3, c4, c5, c6, c7⟩ := Q6.out.1.2.1
  go_wp2_with fail
  refine (DB.out _ B cb Q6.out.1.2.2).mono ?_; rintro e w9 ⟨rfl, b9⟩
  have H9 := Lib.hid (H6.out.trans (b9.mono H6.out.size))
  have Q9 := Lib.hid (S3 _ _ Q6.out b9)
  clear b9 H6 Q6 c0 c1 c2 c3 c4 c5 c6 c7
  go_wp2_with fail
  refine (salive _ (HE.out.below H9.out) (HI.out.below H9.out)).mono ?_; rintro e w7 ⟨rfl, b7⟩
  have H7 := Lib.hid (H9.out.trans (b7.mono H9.out.size))
  have Q7 := Lib.hid (S3 _ _ Q9.out b7)
  clear b7 H9 Q9
  obtain ⟨c0, c1, c2, c3, c4, c5, c6, c7⟩ := Q7.out.1.1.1
  obtain ⟨d0, d1, d2, d3, d4, d5, d6, d7⟩ := Q7.out.2.1
  go_wp2_with fail
  refine (SS.out _ A C ca cc Q7.out.1.1.2 Q7.out.2.2).mono ?_; rintro e w8 ⟨rfl, b8⟩
  have H8 := Lib.hid (H7.out.trans (b8.mono H7.out.size))
  clear b8 H7 Q7 c0 c1 c2 c3 c4 c5 c6 c7 d0 d1 d2 d3 d4 d5 d6 d7
  go_wp2_with fail
  go_ret
  exact ⟨rfl, H8.out⟩
end Go.Proofs.YtgdiafnjbphgkaaGreatDoor
/- Brackets: the statement's walk: trees less deep. -/
namespace Go.Proofs.YtgdiafnjbphgkaaGreatDoor
open Go.RowKit

set_option maxHeartbeats 4000000 in
set_option maxRecDepth 10000 in
theorem brackets_fine (s t : ByteArray) (n : Int) (hn : 0 ≤ n ∧ n ≤ 255) (hs : decide ((60 : Int) < (s.size : Int)) = false) (hs2 : s.size ≤ 60) (ht : decide ((60 : Int) < (t.size : Int)) = false) (ht2 : t.size ≤ 60) {a b : Tr} (ha : parseL s.data.toList = .good a) (hb : parseL t.data.toList = .good b) (hd : ¬ 15 < deepT a) (hd2 : ¬ 15 < deepT b) (w : World) (hE : EnvP w) (hI : EnvI w) :
    Calls Tryz.prog 5 #[.string s, .string t, .int .u8 n] w (Yes w) := by
  have pa := parse_parsed ha
  have pb := parse_parsed hb
  have la := pa.wid.len
  have lb := pb.wid.len
  have hls : s.data.toList.length = s.size := len_of s
  have hlt : t.data.toList.length = t.size := len_of t
  have HE := Lib.hid hE
  have HI := Lib.hid hI
  obtain ⟨hn0, hn1⟩ := hn
  obtain ⟨o, hop, hlv, hol⟩ := op_at n hn0
  have hos : o.data.toList.length = o.size := len_of o
  have P1 := Lib.hid (fun w => parse_goodB (s := s) (by omega) ha w)
  have P2 := Lib.hid (fun w => parse_goodB (s := t) (by omega) hb w)
  have P3 := Lib.hid (fun w => parse_goodB (s := (⟨#[32, 40, 32]⟩ : ByteArray) ++ s ++ (⟨#[32, 41, 32]⟩ : ByteArray)) (t := a) (brk_size s hs2) (by rw [brk_data]; exact parse_brk ha (by omega)) w)
  have P4 := Lib.hid (fun w => parse_negB (s := (⟨#[45, 40]⟩ : ByteArray) ++ s ++ (⟨#[41]⟩ : ByteArray)) (a := a) (neg_size s hs2) (by rw [neg_data, parse_neg ha (by omega), if_neg hd]) w)
  have P5 := Lib.hid (fun w => parse_opB (s := (⟨#[40]⟩ : ByteArray) ++ s ++ (⟨#[41]⟩ : ByteArray) ++ o ++ (⟨#[40]⟩ : ByteArray) ++ t ++ (⟨#[41]⟩ : ByteArray)) (l := o.data.toList) (a := a) (b := b) (op_size o s t (by omega) hs2 ht2) (by rw [op_data, parse_op hlv hol ha (by omega) hb (by omega), if_neg (by omega)]) w)
  have SB := Lib.hid (fun w A B ca cb hA hB => same_self b pb.wid w A B ca cb hA hB)
  have SS := Lib.hid (fun w A B ca cb hA hB => same_self a pa.wid w A B ca cb hA hB)
  have DD := Lib.hid (fun w A ca hA => deep_any a pa.deep pa.wid w A ca hA)
  have DB := Lib.hid (fun w A ca hA => deep_any b pb.deep pb.wid w A ca hA)
  have hdd : decide ((15 : Int) < (deepT a : Int)) = false := decide_eq_false (by omega)
  have hdb : decide ((15 : Int) < (deepT b : Int)) = false := decide_eq_false (by omega)
  have hd16 := pa.deep
  have hd17 := pb.deep
  have hos2 : o.size ≤ 2 := by omega
  clear hE hI ha hb pa pb hlv hls hlt hol hos
  unfold maxLen at la lb
  go_enter Tryz.func5, Tryz.ntmps5
  go_wp2_with fail
  refine (P1.out _ HE.out).mono ?_; rintro e w1 ⟨A, ca, rfl, ka, b1⟩
  have H1 := Lib.hid (belowAlloc b1 b1.size (valT a A ca))
  have S1 := ((stays_here w1.heap.size a A ca).and (stays_kv a A))
  have Q1 : Hid (Here (w1.alloc (valT a A ca)) w1.heap.size a A ca ∧ KV (w1.alloc (valT a A ca)) (fun _ => True) a A) := Lib.hid ⟨Here.new w1 a A ca, (stays_kv a A).al ka _⟩
  clear b1 ka
  unfold valT vT at H1 Q1
  go_wp2_with fail
  refine (P2.out _ (HE.out.below H1.out)).mono ?_; rintro e w2 ⟨B, cb, rfl, kb, b2⟩
  have H2 := Lib.hid (belowAlloc (H1.out.trans (b2.mono H1.out.size)) (Nat.le_trans H1.out.size b2.size) (valT b B cb))
  have S2 := S1.and ((stays_here w2.heap.size b B cb).and (stays_kv b B))
  have Q2 : Hid ((Here (w2.alloc (valT b B cb)) w1.heap.size a A ca ∧ KV (w2.alloc (valT b B cb)) (fun _ => True) a A) ∧ Here (w2.alloc (valT b B cb)) w2.heap.size b B cb ∧ KV (w2.alloc (valT b B cb)) (fun _ => True) b B) := Lib.hid ⟨S1.al (S1 _ _ Q1.out b2) _, Here.new w2 b B cb, (stays_kv b B).al kb _⟩
  have H2' := Lib.hid (belowAlloc H2.out H2.out.size (.cells #[.string ⟨#[43]⟩, .string ⟨#[45]⟩, .string ⟨#[42]⟩, .string ⟨#[47]⟩, .string ⟨#[60]⟩, .string ⟨#[60, 61]⟩, .string ⟨#[61]⟩, .string ⟨#[60, 62]⟩, .string ⟨#[62, 61]⟩, .string ⟨#[62]⟩] 9))
  have Q2' := Lib.hid (S2.al Q2.out (.cells #[.string ⟨#[43]⟩, .string ⟨#[45]⟩, .string ⟨#[42]⟩, .string ⟨#[47]⟩, .string ⟨#[60]⟩, .string ⟨#[60, 61]⟩, .string ⟨#[61]⟩, .string ⟨#[60, 62]⟩, .string ⟨#[62, 61]⟩, .string ⟨#[62]⟩] 9))
  clear b2 kb H1 Q1 H2 Q2
  unfold valT vT at H2' Q2'
  go_wp2_with fail
  refine (P3.out _ (HE.out.below H2'.out)).mono ?_; rintro e w3 ⟨C, cc, rfl, kc, b3⟩
  have H3 := Lib.hid (belowAlloc (H2'.out.trans (b3.mono H2'.out.size)) (Nat.le_trans H2'.out.size b3.size) (valT a C cc))
  have S3 := S2.and ((stays_here w3.heap.size a C cc).and (stays_kv a C))
  have Q3 := Lib.hid (And.intro (S2.al (S2 _ _ Q2'.out b3) (valT a C cc)) (And.intro (show Here (w3.alloc (valT a C cc)) w3.heap.size a C cc from Here.new w3 a C cc) ((stays_kv a C).al kc (valT a C cc))))
  clear b3 kc H2' Q2'
  unfold valT vT at H3 Q3
  go_wp2_with fail
  refine (P4.out _ (HE.out.below H3.out)).mono ?_; rintro e w4 ⟨g, u, cd, D, dd, rfl, k4, kd, b4⟩
  have H4 := Lib.hid (belowAlloc (H3.out.trans (b4.mono H3.out.size)) (Nat.le_trans H3.out.size b4.size) (vT 3 0 0 0 0 0 ⟨#[]⟩ (some ⟨g, u, none⟩) 1 cd))
  have S4 := S3.and ((stays_at8 g u a D dd).and (stays_kv a D))
  have Q4 := Lib.hid (S4.al ⟨S3 _ _ Q3.out b4, k4, kd⟩ (vT 3 0 0 0 0 0 ⟨#[]⟩ (some ⟨g, u, none⟩) 1 cd))
  have E4 : Hid (((w4.alloc (vT 3 0 0 0 0 0 ⟨#[]⟩ (some ⟨g, u, none⟩) 1 cd)).cell? ⟨w4.heap.size, 7, none⟩ = some (.slice (some ⟨g, u, none⟩) 1 cd)) ∧ ((w4.alloc (vT 3 0 0 0 0 0 ⟨#[]⟩ (some ⟨g, u, none⟩) 1 cd)).cell? ⟨w4.heap.size, 0, none⟩ = some (.int .i64 3))) := Lib.hid ⟨(cells8_of (heap_alloc_new w4 _)).2.2.2.2.2.2.2, (cells8_of (heap_alloc_new w4 _)).1⟩
  clear b4 H3 Q3 k4 kd
  unfold vT at H4 Q4 E4
  go_wp2_with fail
  refine (P5.out _ (HE.out.below H4.out)).mono ?_; rintro e w5 ⟨g', u', cx, X, cX, Y, cY, rfl, k5, kx, b5⟩
  rw [show (⟨o.data.toList.toArray⟩ : ByteArray) = o from by simp]
  have H5 := Lib.hid (belowAlloc (H4.out.trans (b5.mono H4.out.size)) (Nat.le_trans H4.out.size b5.size) (vT 4 0 0 0 0 0 o (some ⟨g', u', none⟩) 2 cx))
  have S5 := (S4.and ((stays_cell ⟨w4.heap.size, 7, none⟩ (.slice (some ⟨g, u, none⟩) 1 cd)).and (stays_cell ⟨w4.heap.size, 0, none⟩ (.int .i64 3)))).and (((stays_at8 g' u' a X cX).and (stays_at8 g' (u' + 8) b Y cY)).and ((stays_kv a X).and (stays_kv b Y)))
  have Q5 := Lib.hid (S5.al ⟨⟨S4 _ _ Q4.out b5, stays_cell _ _ _ _ E4.out.1 b5, stays_cell _ _ _ _ E4.out.2 b5⟩, k5, kx⟩ (vT 4 0 0 0 0 0 o (some ⟨g', u', none⟩) 2 cx))
  have S6 := S5.and (((stays_cell ⟨w5.heap.size, 7, none⟩ (.slice (some ⟨g', u', none⟩) 2 cx)).and (stays_cell ⟨w5.heap.size, 0, none⟩ (.int .i64 4))).and (stays_cell ⟨w5.heap.size, 6, none⟩ (.string o)))
  have Q6 := Lib.hid (And.intro Q5.out (And.intro (And.intro (show (w5.alloc (vT 4 0 0 0 0 0 o (some ⟨g', u', none⟩) 2 cx)).cell? ⟨w5.heap.size, 7, none⟩ = some (.slice (some ⟨g', u', none⟩) 2 cx) from (cells8_of (heap_alloc_new w5 _)).2.2.2.2.2.2.2) (show (w5.alloc (vT 4 0 0 0 0 0 o (some ⟨g', u', none⟩) 2 cx)).cell? ⟨w5.heap.size, 0, none⟩ = some (.int .i64 4) from (cells8_of (heap_alloc_new w5 _)).1)) (show (w5.alloc (vT 4 0 0 0 0 0 o (some ⟨g', u', none⟩) 2 cx)).cell? ⟨w5.heap.size, 6, none⟩ = some (.string o) from (cells8_of (heap_alloc_new w5 _)).2.2.2.2.2.2.1)))
  clear b5 H4 Q4 E4 k5 kx Q5
  unfold vT at H5 Q6
  obtain ⟨c0, c1, c2, c3, c4, c5, c6, c7⟩ := Q6.out.1.1.1.1.1.1.1
  go_wp2_with fail
  refine (DD.out _ A ca Q6.out.1.1.1.1.1.1.2).mono ?_; rintro e w7 ⟨rfl, b7⟩
  have H7 := Lib.hid (H5.out.trans (b7.mono H5.out.size))
  have Q7 := Lib.hid (S6 _ _ Q6.out b7)
  clear b7 H5 Q6 c0 c1 c2 c3 c4 c5 c6 c7
  obtain ⟨c0, c1, c2, c3, c4, c5, c6, c7⟩ := Q7.out.1.1.1.1.1.2.1
  go_wp2_with fail
  refine (DB.out _ B cb Q7.out.1.1.1.1.1.2.2).mono ?_; rintro e w8 ⟨rfl, b8⟩
  have H8 := Lib.hid (H7.out.trans (b8.mono H7.out.size))
  have Q8 := Lib.hid (S6 _ _ Q7.out b8)
  clear b8 H7 Q7 c0 c1 c2 c3 c4 c5 c6 c7
  have m7d := Q8.out.1.1.2.1
  have m7x := Q8.out.2.1.1
  go_wp2_with fail
  clear m7d m7x
  go_region_held3 (fun w' => (w'.cell? ⟨w1.heap.size, 0, none⟩ = some (.int .i64 a.kind) ∧ w'.cell? ⟨w1.heap.size, 1, none⟩ = some (.int .i64 a.num) ∧ w'.cell? ⟨w1.heap.size, 2, none⟩ = some (.int .i64 a.c1) ∧ w'.cell? ⟨w1.heap.size, 3, none⟩ = some (.int .i64 a.r1) ∧ w'.cell? ⟨w1.heap.size, 4, none⟩ = some (.int .i64 a.c2) ∧ w'.cell? ⟨w1.heap.size, 5, none⟩ = some (.int .i64 a.r2) ∧ w'.cell? ⟨w1.heap.size, 6, none⟩ = some (.string ⟨a.word.toArray⟩) ∧ w'.cell? ⟨w1.heap.size, 7, none⟩ = some (.slice A a.kids.length ca)) ∧ (w'.cell? ⟨w2.heap.size, 0, none⟩ = some (.int .i64 b.kind) ∧ w'.cell? ⟨w2.heap.size, 1, none⟩ = some (.int .i64 b.num) ∧ w'.cell? ⟨w2.heap.size, 2, none⟩ = some (.int .i64 b.c1) ∧ w'.cell? ⟨w2.heap.size, 3, none⟩ = some (.int .i64 b.r1) ∧ w'.cell? ⟨w2.heap.size, 4, none⟩ = some (.int .i64 b.c2) ∧ w'.cell? ⟨w2.heap.size, 5, none⟩ = some (.int .i64 b.r2) ∧ w'.cell? ⟨w2.heap.size, 6, none⟩ = some (.string ⟨b.word.toArray⟩) ∧ w'.cell? ⟨w2.heap.size, 7, none⟩ = some (.slice B b.kids.length cb)) ∧ (w'.cell? ⟨w3.heap.size, 0, none⟩ = some (.int .i64 a.kind) ∧ w'.cell? ⟨w3.heap.size, 1, none⟩ = some (.int .i64 a.num) ∧ w'.cell? ⟨w3.heap.size, 2, none⟩ = some (.int .i64 a.c1) ∧ w'.cell? ⟨w3.heap.size, 3, none⟩ = some (.int .i64 a.r1) ∧ w'.cell? ⟨w3.heap.size, 4, none⟩ = some (.int .i64 a.c2) ∧ w'.cell? ⟨w3.heap.size, 5, none⟩ = some (.int .i64 a.r2) ∧ w'.cell? ⟨w3.heap.size, 6, none⟩ = some (.string ⟨a.word.toArray⟩) ∧ w'.cell? ⟨w3.heap.size, 7, none⟩ = some (.slice C a.kids.length cc)) ∧ (w'.cell? ⟨g, u, none⟩ = some (.int .i64 a.kind) ∧ w'.cell? ⟨g, u + 1, none⟩ = some (.int .i64 a.num) ∧ w'.cell? ⟨g, u + 2, none⟩ = some (.int .i64 a.c1) ∧ w'.cell? ⟨g, u + 3, none⟩ = some (.int .i64 a.r1) ∧ w'.cell? ⟨g, u + 4, none⟩ = some (.int .i64 a.c2) ∧ w'.cell? ⟨g, u + 5, none⟩ = some (.int .i64 a.r2) ∧ w'.cell? ⟨g, u + 6, none⟩ = some (.string ⟨a.word.toArray⟩) ∧ w'.cell? ⟨g, u + 7, none⟩ = some (.slice D a.kids.length dd)) ∧ w'.cell? ⟨w4.heap.size, 7, none⟩ = some (.slice (some ⟨g, u, none⟩) 1 cd) ∧ w'.cell? ⟨w4.heap.size, 0, none⟩ = some (.int .i64 3) ∧ (w'.cell? ⟨g', u', none⟩ = some (.int .i64 a.kind) ∧ w'.cell? ⟨g', u' + 1, none⟩ = some (.int .i64 a.num) ∧ w'.cell? ⟨g', u' + 2, none⟩ = some (.int .i64 a.c1) ∧ w'.cell? ⟨g', u' + 3, none⟩ = some (.int .i64 a.r1) ∧ w'.cell? ⟨g', u' + 4, none⟩ = some (.int .i64 a.c2) ∧ w'.cell? ⟨g', u' + 5, none⟩ = some (.int .i64 a.r2) ∧ w'.cell? ⟨g', u' + 6, none⟩ = some (.string ⟨a.word.toArray⟩) ∧ w'.cell? ⟨g', u' + 7, none⟩ = some (.slice X a.kids.length cX)) ∧ (w'.cell? ⟨g', u' + 8, none⟩ = some (.int .i64 b.kind) ∧ w'.cell? ⟨g', u' + 8 + 1, none⟩ = some (.int .i64 b.num) ∧ w'.cell? ⟨g', u' + 8 + 2, none⟩ = some (.int .i64 b.c1) ∧ w'.cell? ⟨g', u' + 8 + 3, none⟩ = some (.int .i64 b.r1) ∧ w'.cell? ⟨g', u' + 8 + 4, none⟩ = some (.int .i64 b.c2) ∧ w'.cell? ⟨g', u' + 8 + 5, none⟩ = some (.int .i64 b.r2) ∧ w'.cell? ⟨g', u' + 8 + 6, none⟩ = some (.string ⟨b.word.toArray⟩) ∧ w'.cell? ⟨g', u' + 8 + 7, none⟩ = some (.slice Y b.kids.length cY)) ∧ w'.cell? ⟨w5.heap.size, 7, none⟩ = some (.slice (some ⟨g', u', none⟩) 2 cx) ∧ w'.cell? ⟨w5.heap.size, 0, none⟩ = some (.int .i64 4) ∧ w'.cell? ⟨w5.heap.size, 6, none⟩ = some (.string o))
    (first | (simp only [World.cell?_drew]; exact ⟨Q8.out.1.1.1.1.1.1.1, Q8.out.1.1.1.1.1.2.1, Q8.out.1.1.1.1.2.1, Q8.out.1.1.1.2.1, Q8.out.1.1.2.1, Q8.out.1.1.2.2, Q8.out.1.2.1.1, Q8.out.1.2.1.2, Q8.out.2.1.1, Q8.out.2.1.2, Q8.out.2.2⟩) | exact ⟨Q9.out.1.1.1.1.1.1.1, Q9.out.1.1.1.1.1.2.1, Q9.out.1.1.1.1.2.1, Q9.out.1.1.1.2.1, Q9.out.1.1.2.1, Q9.out.1.1.2.2, Q9.out.1.2.1.1, Q9.out.1.2.1.2, Q9.out.2.1.1, Q9.out.2.1.2, Q9.out.2.2⟩ | exact ⟨Q10.out.1.1.1.1.1.1.1, Q10.out.1.1.1.1.1.2.1, Q10.out.1.1.1.1.2.1, Q10.out.1.1.1.2.1, Q10.out.1.1.2.1, Q10.out.1.1.2.2, Q10.out.1.2.1.1, Q10.out.1.2.1.2, Q10.out.2.1.1, Q10.out.2.1.2, Q10.out.2.2⟩ | exact ⟨Q11.out.1.1.1.1.1.1.1, Q11.out.1.1.1.1.1.2.1, Q11.out.1.1.1.1.2.1, Q11.out.1.1.1.2.1, Q11.out.1.1.2.1, Q11.out.1.1.2.2, Q11.out.1.2.1.1, Q11.out.1.2.1.2, Q11.out.2.1.1, Q11.out.2.1.2, Q11.out.2.2⟩ | exact ⟨Q12.out.1.1.1.1.1.1.1, Q12.out.1.1.1.1.1.2.1, Q12.out.1.1.1.1.2.1, Q12.out.1.1.1.2.1, Q12.out.1.1.2.1, Q12.out.1.1.2.2, Q12.out.1.2.1.1, Q12.out.1.2.1.2, Q12.out.2.1.1, Q12.out.2.1.2, Q12.out.2.2⟩ | exact ⟨Q13.out.1.1.1.1.1.1.1, Q13.out.1.1.1.1.1.2.1, Q13.out.1.1.1.1.2.1, Q13.out.1.1.1.2.1, Q13.out.1.1.2.1, Q13.out.1.1.2.2, Q13.out.1.2.1.1, Q13.out.1.2.1.2, Q13.out.2.1.1, Q13.out.2.1.2, Q13.out.2.2⟩ | fail)
    (first
    | (go_at_call 17; refine (SB.out _ Y B cY cb Q12.out.1.2.2.2 Q12.out.1.1.1.1.1.2.2).mono ?_; rintro e w13 ⟨rfl, b13⟩
       have B13 : Below w12.heap.size w12 w13 := b13
       have H13 := Lib.hid (H12.out.trans (B13.mono H12.out.size))
       have Q13 := Lib.hid (S6 _ _ Q12.out B13)
       clear b13 B13 Q12 H12)
    | (go_at_call 17; refine (SS.out _ X A cX ca Q11.out.1.2.2.1 Q11.out.1.1.1.1.1.1.2).mono ?_; rintro e w12 ⟨rfl, b12⟩
       have B12 : Below w11.heap.size w11 w12 := b12
       have H12 := Lib.hid (H11.out.trans (B12.mono H11.out.size))
       have Q12 := Lib.hid (S6 _ _ Q11.out B12)
       clear b12 B12 Q11 H11)
    | (go_at_call 17; refine (SS.out _ D A dd ca Q10.out.1.1.1.2.2 Q10.out.1.1.1.1.1.1.2).mono ?_; rintro e w11 ⟨rfl, b11⟩
       have B11 : Below w10.heap.size w10 w11 := b11
       have H11 := Lib.hid (H10.out.trans (B11.mono H10.out.size))
       have Q11 := Lib.hid (S6 _ _ Q10.out B11)
       clear b11 B11 Q10 H10)
    | (go_at_call 17; refine (SS.out _ A C ca cc Q9.out.1.1.1.1.1.1.2 Q9.out.1.1.1.1.2.2).mono ?_; rintro e w10 ⟨rfl, b10⟩
       have B10 : Below w9.heap.size w9 w10 := b10
       have H10 := Lib.hid (H9.out.trans (B10.mono H9.out.size))
       have Q10 := Lib.hid (S6 _ _ Q9.out B10)
       clear b10 B10 Q9 H9)
    | (go_at_call 6; refine (salive _ (HE.out.below H8.out.drew) (HI.out.below H8.out.drew)).mono ?_; rintro e w9 ⟨rfl, b9⟩
       have B9 : Below w8.heap.size w8 w9 := (Below.refl _ w8).drew.trans b9
       have H9 := Lib.hid (H8.out.trans (B9.mono H8.out.size))
       have Q9 := Lib.hid (S6 _ _ Q8.out B9)
       clear b9 B9 Q8 H8))
  go_wp2_with fail
  go_ret
  exact ⟨rfl, H13.out⟩
end Go.Proofs.YtgdiafnjbphgkaaGreatDoor
/- Brackets: the statement's walk, whole. -/
namespace Go.Proofs.YtgdiafnjbphgkaaGreatDoor
open Go.RowKit

theorem brackets_any (s t : ByteArray) (n : Int) (hn : 0 ≤ n ∧ n ≤ 255) (hs2 : s.size ≤ 9223372036854775807) (ht2 : t.size ≤ 9223372036854775807) (w : World) (hE : EnvP w) (hI : EnvI w) :
    Calls Tryz.prog 5 #[.string s, .string t, .int .u8 n] w (Yes w) := by
  cases hs : decide ((60 : Int) < (s.size : Int)) with
  | true => exact brackets_long1 s t n hs hs2 w hE hI
  | false =>
    cases ht : decide ((60 : Int) < (t.size : Int)) with
    | true => exact brackets_long2 s t n hs hs2 ht w hE hI
    | false =>
      have s60 : s.size ≤ 60 := by have := of_decide_eq_false hs; omega
      have t60 : t.size ≤ 60 := by have := of_decide_eq_false ht; omega
      cases ha : parseL s.data.toList with
      | fail a c => exact brackets_fail1 s t n hs hs2 ht ht2 ha w hE hI
      | good a =>
        cases hb : parseL t.data.toList with
        | fail p c => exact brackets_fail2 s t n hs hs2 ht ht2 ha (parse_parsed ha).wid.len hb w hE hI
        | good b =>
          by_cases d1 : 15 < deepT a
          · exact brackets_deep1 s t n hn hs s60 ht t60 ha hb d1 w hE hI
          · by_cases d2 : 15 < deepT b
            · exact brackets_deep2 s t n hn hs s60 ht t60 ha hb d1 d2 w hE hI
            · exact brackets_fine s t n hn hs s60 ht t60 ha hb d1 d2 w hE hI
end Go.Proofs.YtgdiafnjbphgkaaGreatDoor
