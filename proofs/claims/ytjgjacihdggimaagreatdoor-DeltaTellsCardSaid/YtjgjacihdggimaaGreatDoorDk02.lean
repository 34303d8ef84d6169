/- Texts joined: TpA, TpB, OwB. -/
import Derived.Test.YtjgjacihdggimaaGreatDoorDk01
import Derived.OwnWalk
import Derived.Deep.Onto
set_option linter.all false
namespace Go.Proofs.YtjgjacihdggimaaGreatDoor
inductive Tr where
  | mk (kind : Int) (nums : List Int) (text : List UInt8) (kids : List Tr)
mutual
def fl : Tr → List Nd → List Nd
  | .mk k nums text kids, out => (flL kids out []).1 ++ [⟨k, (flL kids out []).2, nums, text⟩]
def flL : List Tr → List Nd → List Int → List Nd × List Int
  | [], out, refs => (out, refs)
  | t :: ts, out, refs => flL ts (fl t out) (refs ++ [-((fl t out).length : Int)])
end
mutual
def At (s : Sh) : Tr → Int → Prop
  | .mk k nums text kids, h => ∃ hs, ndAt s h = some ⟨k, hs, nums, text⟩ ∧ AtL s kids hs
def AtL (s : Sh) : List Tr → List Int → Prop
  | [], hs => hs = []
  | t :: ts, hs => ∃ h hs', hs = h :: hs' ∧ At s t h ∧ AtL s ts hs'
end
theorem flL_snoc : ∀ (ts : List Tr) (t : Tr) (out : List Nd) (refs : List Int), flL (ts ++ [t]) out refs = (fl t (flL ts out refs).1, (flL ts out refs).2 ++ [-((fl t (flL ts out refs).1).length : Int)])
  | [], t, out, refs => by rw [List.nil_append, flL, flL, flL]
  | u :: ts, t, out, refs => by rw [List.cons_append, flL, flL_snoc ts t, flL]
theorem flL_refs : ∀ (ts : List Tr) (out : List Nd) (refs : List Int), ∃ more, (flL ts out refs).2 = refs ++ more ∧ more.length = ts.length
  | [], out, refs => ⟨[], by rw [flL, List.append_nil], rfl⟩
  | t :: ts, out, refs => by
    obtain ⟨m, e, hl⟩ := flL_refs ts (fl t out) (refs ++ [-((fl t out).length : Int)])
    exact ⟨_ :: m, by rw [flL, e, List.append_assoc]; rfl, by simp [hl]⟩
mutual
theorem fl_ext : ∀ (t : Tr) (out : List Nd), ∃ new, fl t out = out ++ new ∧ new ≠ []
  | .mk k nums text kids, out => by
    obtain ⟨new, e⟩ := flL_ext kids out []
    exact ⟨new ++ [⟨k, (flL kids out []).2, nums, text⟩], by rw [fl, e, List.append_assoc], by simp⟩
theorem flL_ext : ∀ (ts : List Tr) (out : List Nd) (refs : List Int), ∃ new, (flL ts out refs).1 = out ++ new
  | [], out, refs => ⟨[], by rw [flL, List.append_nil]⟩
  | t :: ts, out, refs => by
    obtain ⟨n1, e1, _⟩ := fl_ext t out
    obtain ⟨n2, e2⟩ := flL_ext ts (fl t out) (refs ++ [-((fl t out).length : Int)])
    exact ⟨n1 ++ n2, by rw [flL, e2, e1, List.append_assoc]⟩
end
theorem fl_pos (t : Tr) (out : List Nd) : out.length < (fl t out).length := by
  obtain ⟨n, e, hn⟩ := fl_ext t out
  rw [e, List.length_append]
  have := List.length_pos_iff.2 hn
  omega
mutual
theorem at_fun {s : Sh} : ∀ (t u : Tr) (h : Int), At s t h → At s u h → t = u
  | .mk k nums text kids, .mk k' nums' text' kids', h, h1, h2 => by
    rw [At] at h1 h2
    obtain ⟨hs, e1, l1⟩ := h1
    obtain ⟨hs', e2, l2⟩ := h2
    rw [e1] at e2
    obtain ⟨rfl, rfl, rfl, rfl⟩ : k = k' ∧ hs = hs' ∧ nums = nums' ∧ text = text' := by
      have := Option.some.inj e2
      injection this with a b c d
      exact ⟨a, b, c, d⟩
    rw [atL_fun kids kids' hs l1 l2]
theorem atL_fun {s : Sh} : ∀ (ts us : List Tr) (hs : List Int), AtL s ts hs → AtL s us hs → ts = us
  | [], [], hs, _, _ => rfl
  | [], u :: us, hs, h1, h2 => by
    rw [AtL] at h1
    rw [AtL] at h2
    obtain ⟨h, hs', e, _⟩ := h2
    rw [h1] at e; cases e
  | t :: ts, [], hs, h1, h2 => by
    rw [AtL] at h1
    rw [AtL] at h2
    obtain ⟨h, hs', e, _⟩ := h1
    rw [h2] at e; cases e
  | t :: ts, u :: us, hs, h1, h2 => by
    rw [AtL] at h1 h2
    obtain ⟨h, hs', rfl, a1, b1⟩ := h1
    obtain ⟨k, ks, e, a2, b2⟩ := h2
    obtain ⟨rfl, rfl⟩ : h = k ∧ hs' = ks := by injection e with a b; exact ⟨a, b⟩
    rw [at_fun t u h a1 a2, atL_fun ts us hs' b1 b2]
end
mutual
theorem at_up {s s' : Sh} (hu : Up s s') : ∀ (t : Tr) (h : Int), At s t h → At s' t h
  | .mk kd nums text kids, h, h1 => by
    rw [At] at h1 ⊢
    obtain ⟨hs, e1, l1⟩ := h1
    exact ⟨hs, hu _ _ e1, atL_up hu kids hs l1⟩
theorem atL_up {s s' : Sh} (hu : Up s s') : ∀ (ts : List Tr) (hs : List Int), AtL s ts hs → AtL s' ts hs
  | [], hs, h1 => by rw [AtL] at h1 ⊢; exact h1
  | t :: ts, hs, h1 => by
    rw [AtL] at h1 ⊢
    obtain ⟨h, hs', e, a1, b1⟩ := h1
    exact ⟨h, hs', e, at_up hu t h a1, atL_up hu ts hs' b1⟩
end
theorem at_live {s : Sh} {t : Tr} {h : Int} (e : At s t h) : live s h = true := by
  cases t
  rw [At] at e
  obtain ⟨hs, e, _⟩ := e
  exact live_iff.2 ⟨_, e⟩
theorem atL_len {s : Sh} : ∀ (ts : List Tr) (hs : List Int), AtL s ts hs → hs.length = ts.length
  | [], hs, h => by rw [AtL] at h; rw [h]; rfl
  | t :: ts, hs, h => by
    rw [AtL] at h
    obtain ⟨k, hs', rfl, _, b⟩ := h
    rw [List.length_cons, atL_len ts hs' b, List.length_cons]
theorem atL_live {s : Sh} : ∀ (ts : List Tr) (hs : List Int), AtL s ts hs → ∀ h ∈ hs, live s h = true
  | [], hs, h, k, hk => by rw [AtL] at h; rw [h] at hk; cases hk
  | t :: ts, hs, h, k, hk => by
    rw [AtL] at h
    obtain ⟨x, hs', rfl, a, b⟩ := h
    rcases List.mem_cons.1 hk with e | e
    · rw [e]; exact at_live a
    · exact atL_live ts hs' b k e

/- Looking nodes up, one by one. -/
def seekL (s : Sh) : List Int → List Nd → Option (List Int)
  | at_, [] => some at_
  | at_, n :: l => if fnd s (asPut at_ n) = 0 then none else seekL s (at_ ++ [(fnd s (asPut at_ n) : Int)]) l
theorem seekL_app (s : Sh) : ∀ (l m : List Nd) (a : List Int), seekL s a (l ++ m) = (seekL s a l).bind fun b => seekL s b m
  | [], m, a => rfl
  | n :: l, m, a => by
    rw [List.cons_append, seekL, seekL]
    split
    · rfl
    · exact seekL_app s l m _
theorem putL_app (room : Nat) : ∀ (l m : List Nd) (s : Sh) (a : List Int), putL room s a (l ++ m) = (putL room s a l).bind fun b => putL room b.1 b.2 m
  | [], m, s, a => rfl
  | n :: l, m, s, a => by
    rw [List.cons_append, putL, putL]
    cases oneA room s (asPut a n) with
    | none => rfl
    | some q => exact putL_app room l m _ _
theorem fnd_of_at {room : Nat} {s : Sh} (hi : Inv room s) {x : Nd} {h : Int} (e : ndAt s h = some x) : (fnd s x : Int) = h ∧ fnd s x ≠ 0 := by
  have hne : fnd s x ≠ 0 := fun h0 => by
    obtain ⟨i, _, hi'⟩ := ndAt_some e
    exact fnd_zero h0 i hi'
  exact ⟨hi.one _ _ _ (fnd_pos hne) e, hne⟩
def Res (a : List Int) (refs hs : List Int) : Prop := refs.map (resolve a) = hs ∧ ∀ r ∈ refs, r < 0 ∧ -(a.length : Int) ≤ r
theorem res_ext {a b refs hs : List Int} (h : Res a refs hs) : Res (a ++ b) refs hs := by
  refine ⟨?_, fun r hr => ⟨(h.2 r hr).1, by have := (h.2 r hr).2; rw [List.length_append]; omega⟩⟩
  rw [← h.1]
  refine List.map_congr_left fun r hr => ?_
  have h1 := h.2 r hr
  unfold resolve
  rw [if_pos h1.1, if_pos h1.1, List.getD_eq_getElem?_getD, List.getD_eq_getElem?_getD, List.getElem?_append_left (by omega)]
theorem res_snoc {a refs hs : List Int} {h : Int} (hr : Res a refs hs) (hl : a.getLast? = some h) : Res a (refs ++ [-(a.length : Int)]) (hs ++ [h]) := by
  have hp : 0 < a.length := by
    rcases Nat.eq_zero_or_pos a.length with e | e
    · rw [List.length_eq_zero_iff.1 e] at hl; cases hl
    · exact e
  refine ⟨?_, fun r hm => ?_⟩
  · rw [List.map_append, hr.1]
    congr 1
    show [resolve a (-(a.length : Int))] = [h]
    unfold resolve
    rw [if_pos (by omega), List.getD_eq_getElem?_getD, show (-1 - -(a.length : Int)).toNat = a.length - 1 by omega, ← List.getLast?_eq_getElem?, hl]; rfl
  · rcases List.mem_append.1 hm with e | e
    · exact hr.2 r e
    · rw [List.mem_singleton.1 e]; omega
mutual
theorem seek_at {room : Nat} {s : Sh} (hi : Inv room s) : ∀ (t : Tr) (h : Int) (out : List Nd) (a : List Int), At s t h → a.length = out.length → ∃ new b, fl t out = out ++ new ∧ seekL s a new = some (a ++ b) ∧ (a ++ b).length = (fl t out).length ∧ (a ++ b).getLast? = some h
  | .mk k nums text kids, h, out, a, hA, hl => by
    rw [At] at hA
    obtain ⟨hs, e, hk⟩ := hA
    obtain ⟨new, b, e1, e2, e3, e4⟩ := seekL_at hi kids hs out a [] [] hk hl ⟨rfl, fun r hr => by cases hr⟩
    have hf := fnd_of_at hi e
    refine ⟨new ++ [⟨k, (flL kids out []).2, nums, text⟩], b ++ [h], by rw [fl, e1, List.append_assoc], ?_, ?_, ?_⟩
    · rw [seekL_app, e2]
      show seekL s (a ++ b) [_] = _
      rw [seekL, show asPut (a ++ b) ⟨k, (flL kids out []).2, nums, text⟩ = ⟨k, hs, nums, text⟩ by unfold asPut; simp only [e4.1, List.nil_append], if_neg hf.2, hf.1, seekL, List.append_assoc]
    · rw [fl]
      simp only [List.length_append, List.length_cons, List.length_nil] at e3 ⊢
      omega
    · rw [← List.append_assoc]; simp
theorem seekL_at {room : Nat} {s : Sh} (hi : Inv room s) : ∀ (ts : List Tr) (hs : List Int) (out : List Nd) (a refs hs0 : List Int), AtL s ts hs → a.length = out.length → Res a refs hs0 → ∃ new b, (flL ts out refs).1 = out ++ new ∧ seekL s a new = some (a ++ b) ∧ (a ++ b).length = (flL ts out refs).1.length ∧ Res (a ++ b) (flL ts out refs).2 (hs0 ++ hs)
  | [], hs, out, a, refs, hs0, hA, hl, hr => by
    rw [AtL] at hA
    subst hA
    exact ⟨[], [], by rw [flL, List.append_nil], by rw [List.append_nil]; rfl, by rw [flL, List.append_nil]; exact hl, by rw [flL, List.append_nil, List.append_nil]; exact hr⟩
  | t :: ts, hs, out, a, refs, hs0, hA, hl, hr => by
    rw [AtL] at hA
    obtain ⟨h, hs', rfl, a1, b1⟩ := hA
    obtain ⟨n1, c1, e1, e2, e3, e4⟩ := seek_at hi t h out a a1 hl
    have hr2 := res_snoc (res_ext (b := c1) hr) e4
    rw [e3] at hr2
    obtain ⟨n2, c2, f1, f2, f3, f4⟩ := seekL_at hi ts hs' (fl t out) (a ++ c1) _ _ b1 e3 hr2
    refine ⟨n1 ++ n2, c1 ++ c2, by rw [flL, f1, e1, List.append_assoc], ?_, ?_, ?_⟩
    · rw [seekL_app, e2]
      show seekL s (a ++ c1) n2 = _
      rw [f2, List.append_assoc]
    · rw [flL, ← f3, List.append_assoc]
    · rw [flL, ← List.append_assoc a]
      rw [show hs0 ++ h :: hs' = hs0 ++ [h] ++ hs' by simp]
      exact f4
end
mutual
theorem at_seek {s : Sh} : ∀ (t : Tr) (out : List Nd) (a c : List Int) (new : List Nd), a.length = out.length → fl t out = out ++ new → seekL s a new = some c → ∃ h b, c = a ++ b ∧ c.length = (fl t out).length ∧ c.getLast? = some h ∧ At s t h
  | .mk k nums text kids, out, a, c, new, hl, hn, hs => by
    obtain ⟨n1, e1⟩ := flL_ext kids out []
    rw [fl, e1, List.append_assoc] at hn
    obtain rfl := (List.append_cancel_left hn).symm
    rw [seekL_app] at hs
    cases h1 : seekL s a n1 with
    | none => rw [h1] at hs; cases hs
    | some c1 =>
      rw [h1] at hs
      change seekL s c1 [_] = some c at hs
      rw [seekL] at hs
      split at hs
      · cases hs
      · rename_i hf
        rw [seekL] at hs
        obtain ⟨hs1, b, e2, e3, e4, e5⟩ := atL_seek kids out a c1 n1 [] [] hl e1 h1 ⟨rfl, fun r hr => by cases hr⟩
        have hp := fnd_pos hf
        obtain rfl := Option.some.inj hs
        have he : asPut c1 ⟨k, (flL kids out []).2, nums, text⟩ = ⟨k, hs1, nums, text⟩ := by unfold asPut; simp only [e4.1, List.nil_append]
        rw [he] at hp ⊢
        refine ⟨(fnd s ⟨k, hs1, nums, text⟩ : Int), b ++ [(fnd s ⟨k, hs1, nums, text⟩ : Int)], by rw [e2, List.append_assoc], ?_, by simp, ?_⟩
        · rw [fl, List.length_append, List.length_append, e3]; rfl
        · rw [At]; exact ⟨hs1, hp, e5⟩
theorem atL_seek {s : Sh} : ∀ (ts : List Tr) (out : List Nd) (a c : List Int) (new : List Nd) (refs hs0 : List Int), a.length = out.length → (flL ts out refs).1 = out ++ new → seekL s a new = some c → Res a refs hs0 → ∃ hs b, c = a ++ b ∧ c.length = (flL ts out refs).1.length ∧ Res c (flL ts out refs).2 (hs0 ++ hs) ∧ AtL s ts hs
  | [], out, a, c, new, refs, hs0, hl, hn, hs, hr => by
    rw [flL] at hn
    have : new = [] := by have := congrArg List.length hn; simp at this; exact this
    subst this
    rw [seekL] at hs
    obtain rfl := Option.some.inj hs
    exact ⟨[], [], by rw [List.append_nil], by rw [flL]; exact hl, by rw [flL, List.append_nil]; exact hr, by rw [AtL]⟩
  | t :: ts, out, a, c, new, refs, hs0, hl, hn, hs, hr => by
    obtain ⟨n1, e1, _⟩ := fl_ext t out
    obtain ⟨n2, e2⟩ := flL_ext ts (fl t out) (refs ++ [-((fl t out).length : Int)])
    rw [flL, e2, e1, List.append_assoc] at hn
    obtain rfl := (List.append_cancel_left hn).symm
    rw [seekL_app] at hs
    cases h1 : seekL s a n1 with
    | none => rw [h1] at hs; cases hs
    | some c1 =>
      rw [h1] at hs
      change seekL s c1 n2 = some c at hs
      obtain ⟨h, b1, g1, g2, g3, g4⟩ := at_seek t out a c1 n1 hl e1 h1
      have hr2 := res_snoc (by rw [g1]; exact res_ext (b := b1) hr) g3
      rw [g2] at hr2
      obtain ⟨hs', b2, k1, k2, k3, k4⟩ := atL_seek ts (fl t out) c1 c n2 _ _ g2 e2 hs hr2
      refine ⟨h :: hs', b1 ++ b2, by rw [k1, g1, List.append_assoc], by rw [flL]; exact k2, ?_, ?_⟩
      · rw [flL]
        rw [show hs0 ++ h :: hs' = hs0 ++ [h] ++ hs' by simp]
        exact k3
      · rw [AtL]; exact ⟨h, hs', rfl, g4, k4⟩
end
mutual
theorem at_put {room : Nat} : ∀ (t : Tr) (out : List Nd) (s s' : Sh) (a c : List Int) (new : List Nd), a.length = out.length → fl t out = out ++ new → putL room s a new = some (s', c) → ∃ h b, c = a ++ b ∧ c.length = (fl t out).length ∧ c.getLast? = some h ∧ At s' t h
  | .mk k nums text kids, out, s, s', a, c, new, hl, hn, hs => by
    obtain ⟨n1, e1⟩ := flL_ext kids out []
    rw [fl, e1, List.append_assoc] at hn
    obtain rfl := (List.append_cancel_left hn).symm
    rw [putL_app] at hs
    cases h1 : putL room s a n1 with
    | none => rw [h1] at hs; cases hs
    | some q =>
      obtain ⟨s1, c1⟩ := q
      rw [h1] at hs
      change putL room s1 c1 [_] = some (s', c) at hs
      rw [putL] at hs
      obtain ⟨hs1, b, e2, e3, e4, e5⟩ := atL_put kids out s s1 a c1 n1 [] [] hl e1 h1 ⟨rfl, fun r hr => by cases hr⟩
      have he : asPut c1 ⟨k, (flL kids out []).2, nums, text⟩ = ⟨k, hs1, nums, text⟩ := by unfold asPut; simp only [e4.1, List.nil_append]
      rw [he] at hs
      cases h2 : oneA room s1 ⟨k, hs1, nums, text⟩ with
      | none => rw [h2] at hs; cases hs
      | some q =>
        obtain ⟨s2, h⟩ := q
        rw [h2] at hs
        change putL room s2 (c1 ++ [h]) [] = some (s', c) at hs
        rw [putL] at hs
        obtain ⟨rfl, rfl⟩ : s2 = s' ∧ c1 ++ [h] = c := by injection hs with hs; injection hs with a b; exact ⟨a, b⟩
        obtain ⟨u, hat⟩ := one_up h2
        refine ⟨h, b ++ [h], by rw [e2, List.append_assoc], by rw [fl, List.length_append, List.length_append, e3]; rfl, by simp, ?_⟩
        rw [At]; exact ⟨hs1, hat, atL_up u kids hs1 e5⟩
theorem atL_put {room : Nat} : ∀ (ts : List Tr) (out : List Nd) (s s' : Sh) (a c : List Int) (new : List Nd) (refs hs0 : List Int), a.length = out.length → (flL ts out refs).1 = out ++ new → putL room s a new = some (s', c) → Res a refs hs0 → ∃ hs b, c = a ++ b ∧ c.length = (flL ts out refs).1.length ∧ Res c (flL ts out refs).2 (hs0 ++ hs) ∧ AtL s' ts hs
  | [], out, s, s', a, c, new, refs, hs0, hl, hn, hs, hr => by
    rw [flL] at hn
    have : new = [] := by have := congrArg List.length hn; simp at this; exact this
    subst this
    rw [putL] at hs
    obtain ⟨rfl, rfl⟩ : s = s' ∧ a = c := by injection hs with hs; injection hs with a b; exact ⟨a, b⟩
    exact ⟨[], [], by rw [List.append_nil], by rw [flL]; exact hl, by rw [flL, List.append_nil]; exact hr, by rw [AtL]⟩
  | t :: ts, out, s, s', a, c, new, refs, hs0, hl, hn, hs, hr => by
    obtain ⟨n1, e1, _⟩ := fl_ext t out
    obtain ⟨n2, e2⟩ := flL_ext ts (fl t out) (refs ++ [-((fl t out).length : Int)])
    rw [flL, e2, e1, List.append_assoc] at hn
    obtain rfl := (List.append_cancel_left hn).symm
    rw [putL_app] at hs
    cases h1 : putL room s a n1 with
    | none => rw [h1] at hs; cases hs
    | some q =>
      obtain ⟨s1, c1⟩ := q
      rw [h1] at hs
      change putL room s1 c1 n2 = some (s', c) at hs
      obtain ⟨h, b1, g1, g2, g3, g4⟩ := at_put t out s s1 a c1 n1 hl e1 h1
      have hr2 := res_snoc (by rw [g1]; exact res_ext (b := b1) hr) g3
      rw [g2] at hr2
      obtain ⟨hs', b2, k1, k2, k3, k4⟩ := atL_put ts (fl t out) s1 s' c1 c n2 _ _ g2 e2 hs hr2
      refine ⟨h :: hs', b1 ++ b2, by rw [k1, g1, List.append_assoc], by rw [flL]; exact k2, ?_, ?_⟩
      · rw [flL]
        rw [show hs0 ++ h :: hs' = hs0 ++ [h] ++ hs' by simp]
        exact k3
      · rw [AtL]; exact ⟨h, hs', rfl, at_up (putL_up hs).1 t h g4, k4⟩
end
end Go.Proofs.YtjgjacihdggimaaGreatDoor
namespace Go.Proofs.YtjgjacihdggimaaGreatDoor
structure En where
  key : Int
  text : List UInt8
deriving Inhabited, DecidableEq
def hashK (k : Int) : Int := if 0 ≤ k ∧ k ≤ 1023 then 41 * k % 1024 / 2 else -1
def digK (k : Int) (lv : Nat) : Int := if lv = 0 then hashK k % 32 else hashK k / 32
def rightE (x : En) : Bool := decide (0 ≤ x.key) && (decide (x.key ≤ 1023) && (decide (1 ≤ x.text.length) && decide (x.text.length ≤ 200)))
theorem right_iffE {x : En} : rightE x = true ↔ 0 ≤ x.key ∧ x.key ≤ 1023 ∧ 1 ≤ x.text.length ∧ x.text.length ≤ 200 := by
  unfold rightE; simp only [Bool.and_eq_true, decide_eq_true_eq]
def leafT (x : En) : Tr := .mk 1 [x.key] x.text []
def bukT : List En → Tr
  | [x] => leafT x
  | l => .mk 2 [] [] (l.map leafT)
def oneH : List En → Bool
  | [] => true
  | x :: r => r.all (fun y => decide (hashK y.key = hashK x.key))
def partD (l : List En) (lv d : Nat) : List En := l.filter (fun x => decide (digK x.key lv = (d : Int)))
def partsD (l : List En) (lv n : Nat) : List (List En) := ((List.range n).map (partD l lv)).filter (fun p => !p.isEmpty)
def bitsD (l : List En) (lv : Nat) : Nat → Nat
  | 0 => 0
  | n + 1 => bitsD l lv n + if (partD l lv n).isEmpty then 0 else 2 ^ n
def trK : Nat → List En → Tr
  | 0, l => bukT l
  | k + 1, l => if oneH l then bukT l else .mk 3 [(bitsD l (1 - k) 32 : Int)] [] ((partsD l (1 - k) 32).map (trK k))
mutual
def lvs : Tr → List En
  | .mk k nums text kids => (if k = 1 ∧ nums.length = 1 then [⟨nums.headD 0, text⟩] else []) ++ lvsL kids
def lvsL : List Tr → List En
  | [] => []
  | t :: ts => lvs t ++ lvsL ts
end
theorem lvsL_map (f : List En → Tr) : ∀ (P : List (List En)), (∀ p ∈ P, (lvs (f p)).Perm p) → (lvsL (P.map f)).Perm P.flatten
  | [], _ => by rw [List.map_nil, lvsL, List.flatten_nil]
  | p :: P, h => by
    rw [List.map_cons, lvsL, List.flatten_cons]
    exact (h p (by simp)).append (lvsL_map f P fun q hq => h q (List.mem_cons_of_mem _ hq))
theorem lvs_leaf (x : En) : lvs (leafT x) = [x] := by unfold leafT; rw [lvs, lvsL]; rfl
theorem lvsL_leaf : ∀ l : List En, lvsL (l.map leafT) = l
  | [] => by rw [List.map_nil, lvsL]
  | x :: l => by rw [List.map_cons, lvsL, lvs_leaf, lvsL_leaf l]; rfl
theorem lvs_buk (l : List En) : lvs (bukT l) = l := by
  unfold bukT
  split
  · exact lvs_leaf _
  · rw [lvs, lvsL_leaf]; rfl
theorem hash_bound {k : Int} (h : 0 ≤ k ∧ k ≤ 1023) : 0 ≤ hashK k ∧ hashK k ≤ 511 := by unfold hashK; rw [if_pos h]; omega
theorem dig_bound {k : Int} (h : 0 ≤ k ∧ k ≤ 1023) (lv : Nat) : 0 ≤ digK k lv ∧ digK k lv < 32 := by
  have := hash_bound h
  unfold digK; split <;> omega
theorem part_count (l : List En) (lv n : Nat) (a : En) : ((List.range n).flatMap (partD l lv)).count a = if 0 ≤ digK a.key lv ∧ digK a.key lv < n then l.count a else 0 := by
  induction n with
  | zero => rw [if_neg (by omega)]; rfl
  | succ n ih =>
    rw [List.range_succ, List.flatMap_append, List.count_append, ih]
    have e : ([n].flatMap (partD l lv)) = partD l lv n := by simp
    rw [e]
    by_cases hd : digK a.key lv = (n : Int)
    · have h0 : (partD l lv n).count a = l.count a := List.count_filter (by simpa using hd)
      rw [h0, if_neg (by omega), if_pos (by omega), Nat.zero_add]
    · have h0 : (partD l lv n).count a = 0 := List.count_eq_zero.2 (fun hm => hd (by have := (List.mem_filter.1 hm).2; simpa using this))
      rw [h0, Nat.add_zero]
      by_cases h1 : 0 ≤ digK a.key lv ∧ digK a.key lv < n
      · rw [if_pos h1, if_pos (by omega)]
      · rw [if_neg h1, if_neg (by omega)]
def KeyIn (l : List En) : Prop := ∀ x ∈ l, 0 ≤ x.key ∧ x.key ≤ 1023
theorem parts_perm {l : List En} (hk : KeyIn l) (lv : Nat) : (partsD l lv 32).flatten.Perm l := by
  unfold partsD
  rw [List.flatten_filter_not_isEmpty, ← List.flatMap_def, List.perm_iff_count]
  intro a
  rw [part_count]
  by_cases ha : a ∈ l
  · have := dig_bound (hk a ha) lv
    rw [if_pos (by omega)]
  · rw [List.count_eq_zero_of_not_mem ha]; simp
theorem part_sub {l p : List En} {lv n : Nat} (h : p ∈ partsD l lv n) : p.Sublist l ∧ p ≠ [] ∧ ∃ d : Nat, d < n ∧ p = partD l lv d := by
  unfold partsD at h
  obtain ⟨h1, h2⟩ := List.mem_filter.1 h
  obtain ⟨d, hd, rfl⟩ := List.mem_map.1 h1
  exact ⟨List.filter_sublist, (by intro e; rw [e] at h2; cases h2), d, List.mem_range.1 hd, rfl⟩
theorem lvs_trK : ∀ (k : Nat) {l : List En}, KeyIn l → (lvs (trK k l)).Perm l
  | 0, l, h => by rw [trK, lvs_buk]
  | k + 1, l, h => by
    rw [trK]
    split
    · rw [lvs_buk]
    · rw [lvs, if_neg (by omega), List.nil_append]
      exact (lvsL_map (trK k) _ fun p hp => lvs_trK k fun x hx => h x ((part_sub hp).1.subset hx)).trans (parts_perm h _)
def OkL (l : List En) : Prop := (∀ x ∈ l, rightE x = true) ∧ l.Pairwise (fun a b => a.key < b.key)
theorem OkL.keys {l : List En} (h : OkL l) : KeyIn l := fun x hx => by have := right_iffE.1 (h.1 x hx); omega
theorem OkL.nodup {l : List En} (h : OkL l) : l.Nodup := h.2.imp fun {a b} hab e => by rw [e] at hab; omega
theorem OkL.eq {l m : List En} (h : OkL l) (k : OkL m) (hm : ∀ x, x ∈ l ↔ x ∈ m) : l = m := by
  have hp := (List.perm_ext_iff_of_nodup h.nodup k.nodup).2 hm
  refine hp.eq_of_pairwise (le := fun a b => a.key < b.key) (fun a b _ _ h1 h2 => ?_) h.2 k.2
  omega
theorem OkL.nil : OkL [] := ⟨fun x hx => (by cases hx), List.Pairwise.nil⟩
def IsT (s : Sh) (h : Int) (l : List En) : Prop := OkL l ∧ ((l = [] ∧ h = 0) ∨ (l ≠ [] ∧ At s (trK 2 l) h))
theorem isT_fun {s : Sh} {h : Int} {l m : List En} (a : IsT s h l) (b : IsT s h m) : l = m := by
  obtain ⟨ol, a⟩ := a
  obtain ⟨om, b⟩ := b
  rcases a with ⟨rfl, rfl⟩ | ⟨hl, a⟩
  · rcases b with ⟨rfl, _⟩ | ⟨_, b⟩
    · rfl
    · have := live_bound (at_live b); omega
  · rcases b with ⟨rfl, rfl⟩ | ⟨hm, b⟩
    · have := live_bound (at_live a); omega
    · have e := at_fun _ _ _ a b
      have p1 := lvs_trK 2 ol.keys
      have p2 := lvs_trK 2 om.keys
      rw [e] at p1
      exact ol.eq om fun x => (p1.symm.trans p2).mem_iff
theorem isT_up {s s' : Sh} (hu : Up s s') {h : Int} {l : List En} (a : IsT s h l) : IsT s' h l :=
  ⟨a.1, a.2.imp id fun h => ⟨h.1, at_up hu _ _ h.2⟩⟩
open Classical in
noncomputable def hasT (s : Sh) (h : Int) : Option (List En) := if e : ∃ l, IsT s h l then some e.choose else none
theorem hasT_some {s : Sh} {h : Int} {l : List En} (a : IsT s h l) : hasT s h = some l := by
  unfold hasT
  rw [dif_pos ⟨l, a⟩]
  exact congrArg some (isT_fun (Exists.choose_spec (⟨l, a⟩ : ∃ l, IsT s h l)) a)
theorem hasT_none {s : Sh} {h : Int} (a : ∀ l, ¬ IsT s h l) : hasT s h = none := by
  unfold hasT
  rw [dif_neg fun ⟨l, e⟩ => a l e]
theorem hasT_is {s : Sh} {h : Int} {l : List En} (a : hasT s h = some l) : IsT s h l := by
  unfold hasT at a
  split at a
  · rename_i e
    rw [← Option.some.inj a]; exact e.choose_spec
  · cases a

/- What the leaves below a handle have. -/
def rdE (s : Sh) (x : Int) : Option En := (ndAt s x).bind fun n => if n.kind = 1 ∧ n.nums.length = 1 then some ⟨n.nums.headD 0, n.text⟩ else none
theorem rch_from {room : Nat} {s : Sh} (hi : Inv room s) {h x : Int} {n : Nd} (hn : ndAt s h = some n) : Rch s [h] x ↔ x = h ∨ ∃ r ∈ n.refs, live s r = true ∧ Rch s [r] x := by
  have hl : live s h = true := live_iff.2 ⟨n, hn⟩
  constructor
  · intro e
    induction e with
    | root r hm _ => exact .inl (by simpa using hm)
    | ref y r m hr hy hm hp ih =>
      rcases ih with rfl | ⟨q, hq, hlq, hrq⟩
      · rw [hn] at hy
        cases hy
        have hlr : live s r = true := by
          rcases hi.shut _ n hn r hm with e | e
          · omega
          · exact e
        exact .inr ⟨r, hm, hlr, .root r (by simp) hlr⟩
      · exact .inr ⟨q, hq, hlq, .ref y r m hrq hy hm hp⟩
  · rintro (rfl | ⟨r, hr, hlr, e⟩)
    · exact .root _ (by simp) hl
    · induction e with
      | root q hm _ =>
        obtain rfl : q = r := by simpa using hm
        exact .ref h q n (.root h (by simp) hl) hn hr (live_bound hlr).1
      | ref y q m _ hy hm hp ih => exact .ref y q m ih hy hm hp
mutual
theorem rch_lvs {room : Nat} {s : Sh} (hi : Inv room s) : ∀ (t : Tr) (h : Int), At s t h → ∀ e, (∃ x, Rch s [h] x ∧ rdE s x = some e) ↔ e ∈ lvs t
  | .mk k nums text kids, h, hA, e => by
    rw [At] at hA
    obtain ⟨hs, hn, hk⟩ := hA
    have hr : rdE s h = if k = 1 ∧ nums.length = 1 then some ⟨nums.headD 0, text⟩ else none := by unfold rdE; rw [hn]; rfl
    have ih := rchL_lvs hi kids hs hk e
    rw [lvs, List.mem_append, ← ih]
    constructor
    · rintro ⟨x, hx, he⟩
      rcases (rch_from hi hn).1 hx with rfl | ⟨r, hm, hl, hq⟩
      · rw [hr] at he
        split at he
        · rename_i hc
          exact .inl (by rw [if_pos hc, Option.some.inj he]; simp)
        · cases he
      · exact .inr ⟨r, hm, x, hq, he⟩
    · rintro (he | ⟨r, hm, x, hq, he⟩)
      · split at he
        · rename_i hc
          exact ⟨h, (rch_from hi hn).2 (.inl rfl), by rw [hr, if_pos hc]; exact congrArg some (List.mem_singleton.1 he).symm⟩
        · cases he
      · exact ⟨x, (rch_from hi hn).2 (.inr ⟨r, hm, atL_live kids hs hk r hm, hq⟩), he⟩
theorem rchL_lvs {room : Nat} {s : Sh} (hi : Inv room s) : ∀ (ts : List Tr) (hs : List Int), AtL s ts hs → ∀ e, (∃ r ∈ hs, ∃ x, Rch s [r] x ∧ rdE s x = some e) ↔ e ∈ lvsL ts
  | [], hs, h, e => by
    rw [AtL] at h
    subst h
    rw [lvsL]
    simp
  | t :: ts, hs, h, e => by
    rw [AtL] at h
    obtain ⟨r, hs', rfl, a, b⟩ := h
    rw [lvsL, List.mem_append, ← rch_lvs hi t r a e, ← rchL_lvs hi ts hs' b e]
    simp only [List.mem_cons]
    constructor
    · rintro ⟨q, rfl | hq, x, hx⟩
      · exact .inl ⟨x, hx⟩
      · exact .inr ⟨q, hq, x, hx⟩
    · rintro (⟨x, hx⟩ | ⟨q, hq, x, hx⟩)
      · exact ⟨r, .inl rfl, x, hx⟩
      · exact ⟨q, .inr hq, x, hx⟩
end
/- Texts by their keys. -/
abbrev Txs := Nat → List UInt8
def setX (f : Txs) (k : Nat) (v : List UInt8) : Txs := fun j => if j = k then v else f j
def addR (s : Sh) (f : Txs) (x : Int) : Txs := match rdE s x with | none => f | some e => if rightE e = true then setX f e.key.toNat e.text else f
def readX (s : Sh) (l : List Int) : Txs := l.foldl (addR s) (fun _ => [])
theorem readX_snoc (s : Sh) (l : List Int) (x : Int) : readX s (l ++ [x]) = addR s (readX s l) x := by unfold readX; rw [List.foldl_append]; rfl
def entX (f : Txs) : Nat → List En
  | 0 => []
  | n + 1 => entX f n ++ if f n = [] then [] else [⟨(n : Int), f n⟩]
theorem entX_mem (f : Txs) : ∀ (n : Nat) (x : En), x ∈ entX f n ↔ ∃ k : Nat, k < n ∧ x = ⟨(k : Int), f k⟩ ∧ f k ≠ []
  | 0, x => by rw [entX]; simp
  | n + 1, x => by
    rw [entX, List.mem_append, entX_mem f n x]
    constructor
    · rintro (⟨k, hk, e, h⟩ | hx)
      · exact ⟨k, by omega, e, h⟩
      · split at hx
        · cases hx
        · rename_i hn
          exact ⟨n, by omega, by simpa using hx, hn⟩
    · rintro ⟨k, hk, e, h⟩
      by_cases e' : k = n
      · subst e'
        exact .inr (by rw [if_neg h]; simp [e])
      · exact .inl ⟨k, by omega, e, h⟩
def OkX (f : Txs) : Prop := ∀ k : Nat, (f k).length ≤ 200
theorem entX_ok {f : Txs} (h : OkX f) : ∀ n : Nat, n ≤ 1024 → OkL (entX f n)
  | 0, _ => by rw [entX]; exact OkL.nil
  | n + 1, hn => by
    have ih := entX_ok h n (by omega)
    refine ⟨fun x hx => ?_, ?_⟩
    · obtain ⟨k, hk, rfl, hne⟩ := (entX_mem f (n + 1) x).1 hx
      have := h k
      have := List.length_pos_iff.2 hne
      exact right_iffE.2 ⟨by show (0 : Int) ≤ (k : Int); omega, by show (k : Int) ≤ 1023; omega, this, by assumption⟩
    · rw [entX]
      refine List.pairwise_append.2 ⟨ih.2, by split <;> simp, fun a ha b hb => ?_⟩
      obtain ⟨k, hk, rfl, _⟩ := (entX_mem f n a).1 ha
      split at hb
      · cases hb
      · rw [List.mem_singleton.1 hb]
        show (k : Int) < (n : Int)
        omega
theorem setX_ok {f : Txs} (h : OkX f) (k : Nat) {v : List UInt8} (hv : v.length ≤ 200) : OkX (setX f k v) := fun j => by
  unfold setX; split
  · exact hv
  · exact h j
theorem readX_ok (s : Sh) (l : List Int) : OkX (readX s l) := by
  unfold readX
  have key : ∀ (l : List Int) (f : Txs), OkX f → OkX (l.foldl (addR s) f) := by
    intro l
    induction l with
    | nil => intro f h; exact h
    | cons x l ih =>
      intro f h
      rw [List.foldl_cons]
      refine ih _ ?_
      unfold addR
      split
      · exact h
      · split
        · rename_i hr
          exact setX_ok h _ (right_iffE.1 hr).2.2.2
        · exact h
  exact key l _ fun k => Nat.zero_le _
def getL : List En → Int → Option (List UInt8)
  | [], _ => none
  | x :: l, k => if x.key = k then some x.text else getL l k
theorem getL_mem : ∀ {l : List En} {k : Int} {v : List UInt8}, getL l k = some v → (⟨k, v⟩ : En) ∈ l
  | x :: l, k, v, h => by
    rw [getL] at h
    split at h
    · rename_i e
      subst e
      rw [← Option.some.inj h]; exact List.mem_cons_self
    · exact List.mem_cons_of_mem _ (getL_mem h)
theorem getL_of : ∀ {l : List En} {x : En}, OkL l → x ∈ l → getL l x.key = some x.text
  | y :: l, x, hl, hx => by
    rw [getL]
    rcases List.mem_cons.1 hx with e | e
    · rw [e, if_pos rfl]
    · have := (List.pairwise_cons.1 hl.2).1 x e
      rw [if_neg (by omega)]
      exact getL_of ⟨fun z hz => hl.1 z (List.mem_cons_of_mem _ hz), (List.pairwise_cons.1 hl.2).2⟩ e
theorem getL_none : ∀ {l : List En} {k : Int}, getL l k = none ↔ ∀ x ∈ l, x.key ≠ k
  | [], k => by simp [getL]
  | y :: l, k => by
    rw [getL]
    split
    · rename_i e; simp [e]
    · rename_i e; rw [getL_none]; simp [e]
def txL (l : List En) : Txs := fun k => (getL l (k : Int)).getD []
theorem ent_txL_n {l : List En} (h : OkL l) (n : Nat) (hn : n = 1024) : entX (txL l) n = l := by
  have hok : OkX (txL l) := fun k => by
    unfold txL
    cases e : getL l (k : Int) with
    | none => exact Nat.zero_le _
    | some v => exact (right_iffE.1 (h.1 _ (getL_mem e))).2.2.2
  refine (entX_ok hok n (Nat.le_of_eq hn)).eq h fun x => ?_
  rw [entX_mem]
  constructor
  · rintro ⟨k, hk, rfl, hne⟩
    unfold txL at hne ⊢
    cases e : getL l (k : Int) with
    | none => rw [e] at hne; exact absurd rfl hne
    | some v => exact getL_mem e
  · intro hx
    have hr := right_iffE.1 (h.1 x hx)
    have hg := getL_of h hx
    refine ⟨x.key.toNat, by omega, ?_, ?_⟩
    · unfold txL
      rw [show ((x.key.toNat : Nat) : Int) = x.key by omega, hg]; rfl
    · unfold txL
      rw [show ((x.key.toNat : Nat) : Int) = x.key by omega, hg]
      exact List.length_pos_iff.1 hr.2.2.1
theorem ent_txL {l : List En} (h : OkL l) : entX (txL l) 1024 = l := ent_txL_n h 1024 rfl
theorem read_is {room : Nat} {s : Sh} (hi : Inv room s) {h : Int} {l : List En} (a : IsT s h l) (k : Nat) : readX s (reachA s [h]) k = txL l k := by
  have hmem : ∀ e, (∃ x ∈ reachA s [h], rdE s x = some e) ↔ e ∈ l := by
    intro e
    have hr : ∀ x, x ∈ reachA s [h] ↔ Rch s [h] x := fun x => by unfold reachA; rw [liveA_mem, left_live hi]
    rcases a.2 with ⟨rfl, rfl⟩ | ⟨hl, hat⟩
    · constructor
      · rintro ⟨x, hx, _⟩
        have := (hr x).1 hx
        exfalso
        have hno : ∀ y, ¬ Rch s [0] y := fun y hy => by
          induction hy with
          | root r hm hlv => have := live_bound hlv; simp at hm; omega
          | ref _ _ _ _ _ _ _ ih => exact ih
        exact hno x this
      · intro he; cases he
    · rw [← (lvs_trK 2 a.1.keys).mem_iff, ← rch_lvs hi _ _ hat e]
      exact ⟨fun ⟨x, hx, he⟩ => ⟨x, (hr x).1 hx, he⟩, fun ⟨x, hx, he⟩ => ⟨x, (hr x).2 hx, he⟩⟩
  -- gone through one by one
  have key : ∀ (L : List Int) (f : Txs), (∀ x ∈ L, ∀ e, rdE s x = some e → e ∈ l) → ∀ k : Nat, (f k = [] ∨ f k = txL l k) → (L.foldl (addR s) f) k = (if f k = [] ∧ ∀ x ∈ L, ∀ e, rdE s x = some e → e.key ≠ (k : Int) then [] else txL l k) := by
    intro L
    induction L with
    | nil =>
      intro f _ k hk
      show f k = _
      rcases hk with e | e
      · rw [if_pos ⟨e, fun x hx => by cases hx⟩, e]
      · by_cases e' : f k = []
        · rw [if_pos ⟨e', fun x hx => by cases hx⟩, e']
        · rw [if_neg fun h => e' h.1, e]
    | cons x L ih =>
      intro f hL k hk
      rw [List.foldl_cons]
      have hL' : ∀ y ∈ L, ∀ e, rdE s y = some e → e ∈ l := fun y hy => hL y (List.mem_cons_of_mem _ hy)
      cases hx : rdE s x with
      | none =>
        have : addR s f x = f := by unfold addR; rw [hx]
        rw [this, ih f hL' k hk]
        congr 1
        apply propext
        constructor
        · rintro ⟨h1, h2⟩
          refine ⟨h1, fun y hy e he => ?_⟩
          rcases List.mem_cons.1 hy with rfl | hy
          · rw [hx] at he; cases he
          · exact h2 y hy e he
        · rintro ⟨h1, h2⟩
          exact ⟨h1, fun y hy => h2 y (List.mem_cons_of_mem _ hy)⟩
      | some e =>
        have hel := hL x List.mem_cons_self e hx
        have hre := a.1.1 e hel
        have hri := right_iffE.1 hre
        have hadd : addR s f x = setX f e.key.toNat e.text := by unfold addR; rw [hx]; exact if_pos hre
        have htx : txL l e.key.toNat = e.text := by
          unfold txL
          rw [show ((e.key.toNat : Nat) : Int) = e.key by omega, getL_of a.1 hel]; rfl
        rw [hadd]
        by_cases hke : k = e.key.toNat
        · subst hke
          have hs : setX f e.key.toNat e.text e.key.toNat = e.text := by unfold setX; rw [if_pos rfl]
          have hne : e.text ≠ [] := List.length_pos_iff.1 hri.2.2.1
          rw [ih _ hL' _ (.inr (by rw [hs, htx])), if_neg (fun h => hne (by rw [← hs]; exact h.1)), if_neg]
          rintro ⟨_, h2⟩
          exact h2 x List.mem_cons_self e hx (by omega)
        · have hs : setX f e.key.toNat e.text k = f k := by unfold setX; rw [if_neg hke]
          rw [ih _ hL' k (by rw [hs]; exact hk), hs]
          congr 1
          apply propext
          constructor
          · rintro ⟨h1, h2⟩
            refine ⟨h1, fun y hy e' he => ?_⟩
            rcases List.mem_cons.1 hy with rfl | hy
            · rw [hx] at he
              cases he
              omega
            · exact h2 y hy e' he
          · rintro ⟨h1, h2⟩
            exact ⟨h1, fun y hy => h2 y (List.mem_cons_of_mem _ hy)⟩
  have := key (reachA s [h]) (fun _ => []) (fun x hx e he => (hmem e).1 ⟨x, hx, he⟩) k (.inl rfl)
  unfold readX
  rw [this]
  split
  · rename_i hc
    unfold txL
    have : getL l (k : Int) = none := getL_none.2 fun y hy => by
      obtain ⟨x, hx, he⟩ := (hmem y).2 hy
      exact hc.2 x hx y he
    rw [this]; rfl
  · rfl
end Go.Proofs.YtjgjacihdggimaaGreatDoor
namespace Go.Proofs.YtjgjacihdggimaaGreatDoor
open Go.RowKit
theorem grown_of_below {w w' : World} (h : Below w.heap.size w w') (row : Option Nat) : w.grownBy w' row := ⟨h.os, h.tape, h.output, h.size, fun i hi _ => h.block i hi⟩
theorem own_below {w w' : World} {base : Nat} {e : TypeId} {size : Nat} {v : Value} {n : Nat} {xs : List Value} (h : w.ownsRow base e size v n xs) (hb : Below w.heap.size w w') : w'.ownsRow base e size v n xs :=
  h.kept (grown_of_below hb none) (by cases v.ownBlock <;> simp)
def Stop (P : Prop) : Prop := P
theorem of_stop {P : Prop} (h : Stop P) : P := h
theorem stop_of {P : Prop} (h : P) : Stop P := h
end Go.Proofs.YtjgjacihdggimaaGreatDoor
