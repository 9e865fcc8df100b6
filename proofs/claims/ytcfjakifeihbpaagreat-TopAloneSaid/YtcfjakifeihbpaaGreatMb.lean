/- Eye: bounds between numbers, narrowed until nothing changes: what they mean. -/
namespace Go.Proofs.YtcfjakifeihbpaaGreat
namespace Nb

/-- A tie: the second number is greater than the first one by something of a span. -/
structure Ti where
  f : Nat
  t : Nat
  lo : Int
  hi : Int
abbrev B := Nat → Option (Int × Int)
def upd (b : B) (k : Nat) (s : Int × Int) : B := fun j => if j = k then some s else b j
abbrev St := B × Bool × Bool
def nar (st : St) (f t : Nat) (lo hi : Int) : St :=
  match st.1 f with
  | none => st
  | some s =>
    match st.1 t with
    | none => (upd st.1 t (s.1 + lo, s.2 + hi), true, st.2.2 || decide (s.2 + hi < s.1 + lo))
    | some o => if (max (s.1 + lo) o.1, min (s.2 + hi) o.2) = o then st else (upd st.1 t (max (s.1 + lo) o.1, min (s.2 + hi) o.2), true, st.2.2 || decide (min (s.2 + hi) o.2 < max (s.1 + lo) o.1))
def tieS (st : St) (t : Ti) : St := nar (nar st t.f t.t t.lo t.hi) t.t t.f (-t.hi) (-t.lo)
def roundS (ties : List Ti) (b : B) : St := ties.foldl tieS (b, false, false)
def overF (ties : List Ti) : Nat → B → Option B
  | 0, _ => none
  | n + 1, b => if (roundS ties b).2.2 = true then none else if (roundS ties b).2.1 = true then overF ties n (roundS ties b).1 else some (roundS ties b).1
def start (base : Nat) : B := fun k => if k = base then some (0, 0) else none

def Tr (ties : List Ti) (x : Nat → Int) : Prop := ∀ t ∈ ties, t.lo ≤ x t.t - x t.f ∧ x t.t - x t.f ≤ t.hi
def Sound (base : Nat) (b : B) (x : Nat → Int) : Prop := ∀ k s, b k = some s → s.1 ≤ x k - x base ∧ x k - x base ≤ s.2
def NE (b : B) : Prop := ∀ k s, b k = some s → s.1 ≤ s.2
/-- Nothing that was known is forgotten, no bound is wider. -/
def Le (b b' : B) : Prop := ∀ k s, b k = some s → ∃ s', b' k = some s' ∧ s.1 ≤ s'.1 ∧ s'.2 ≤ s.2
theorem Le.refl (b : B) : Le b b := fun _ s h => ⟨s, h, Int.le_refl _, Int.le_refl _⟩
theorem Le.trans {a b c : B} (h : Le a b) (h' : Le b c) : Le a c := fun k s hk => by
  obtain ⟨s1, e1, l1, r1⟩ := h k s hk
  obtain ⟨s2, e2, l2, r2⟩ := h' k s1 e1
  exact ⟨s2, e2, by omega, by omega⟩
section
variable {st : St} {f t : Nat} {lo hi : Int}
theorem nar_none (h : st.1 f = none) : nar st f t lo hi = st := by unfold nar; rw [h]
theorem nar_new {s : Int × Int} (h : st.1 f = some s) (ht : st.1 t = none) : nar st f t lo hi = (upd st.1 t (s.1 + lo, s.2 + hi), true, st.2.2 || decide (s.2 + hi < s.1 + lo)) := by unfold nar; rw [h]; dsimp only; rw [ht]
theorem nar_old {s o : Int × Int} (h : st.1 f = some s) (ht : st.1 t = some o) : nar st f t lo hi = if (max (s.1 + lo) o.1, min (s.2 + hi) o.2) = o then st else (upd st.1 t (max (s.1 + lo) o.1, min (s.2 + hi) o.2), true, st.2.2 || decide (min (s.2 + hi) o.2 < max (s.1 + lo) o.1)) := by unfold nar; rw [h]; dsimp only; rw [ht]
theorem upd_at (b : B) (k : Nat) (s : Int × Int) : upd b k s k = some s := if_pos rfl
theorem upd_ne (b : B) {k j : Nat} (s : Int × Int) (h : j ≠ k) : upd b k s j = b j := if_neg h
/-- The four ways. -/
theorem nar_cases (st : St) (f t : Nat) (lo hi : Int) : (nar st f t lo hi = st ∧ (st.1 f = none ∨ ∃ s o, st.1 f = some s ∧ st.1 t = some o ∧ s.1 + lo ≤ o.1 ∧ o.2 ≤ s.2 + hi)) ∨
    ∃ s n, st.1 f = some s ∧ nar st f t lo hi = (upd st.1 t n, true, st.2.2 || decide (n.2 < n.1)) ∧ s.1 + lo ≤ n.1 ∧ n.2 ≤ s.2 + hi ∧
      ((st.1 t = none ∧ n = (s.1 + lo, s.2 + hi)) ∨ ∃ o, st.1 t = some o ∧ n = (max (s.1 + lo) o.1, min (s.2 + hi) o.2)) := by
  cases hf : st.1 f with
  | none => exact .inl ⟨nar_none hf, .inl rfl⟩
  | some s =>
    cases ht : st.1 t with
    | none => exact .inr ⟨s, _, rfl, nar_new hf ht, Int.le_refl _, Int.le_refl _, .inl ⟨rfl, rfl⟩⟩
    | some o =>
      rw [nar_old hf ht]
      by_cases h : (max (s.1 + lo) o.1, min (s.2 + hi) o.2) = o
      · rw [if_pos h]
        have h1 : max (s.1 + lo) o.1 = o.1 := congrArg Prod.fst h
        have h2 : min (s.2 + hi) o.2 = o.2 := congrArg Prod.snd h
        exact .inl ⟨rfl, .inr ⟨s, o, rfl, rfl, by omega, by omega⟩⟩
      · rw [if_neg h]
        exact .inr ⟨s, _, rfl, rfl, by simp only; omega, by simp only; omega, .inr ⟨o, rfl, rfl⟩⟩
theorem nar_le (st : St) (f t : Nat) (lo hi : Int) : Le st.1 (nar st f t lo hi).1 := by
  rcases nar_cases st f t lo hi with ⟨h, _⟩ | ⟨s, n, _, h, _, _, h3⟩
  · rw [h]; exact Le.refl _
  · rw [h]
    intro k q hk
    by_cases e : k = t
    · subst e
      rcases h3 with ⟨h4, _⟩ | ⟨o, h4, h5⟩
      · rw [h4] at hk; cases hk
      · rw [h4] at hk; cases hk
        exact ⟨n, upd_at _ _ _, by rw [h5]; simp only; omega, by rw [h5]; simp only; omega⟩
    · exact ⟨q, (upd_ne _ _ e).trans hk, Int.le_refl _, Int.le_refl _⟩
theorem nar_does {s : Int × Int} (h : st.1 f = some s) : ∃ n, (nar st f t lo hi).1 t = some n ∧ s.1 + lo ≤ n.1 ∧ n.2 ≤ s.2 + hi := by
  rcases nar_cases st f t lo hi with ⟨h1, h2 | ⟨s', o, e1, e2, l1, l2⟩⟩ | ⟨s', n, e1, h1, l1, l2, _⟩
  · rw [h] at h2; cases h2
  · rw [h] at e1; cases e1
    exact ⟨o, by rw [h1]; exact e2, l1, l2⟩
  · rw [h] at e1; cases e1
    exact ⟨n, by rw [h1]; exact upd_at _ _ _, l1, l2⟩
theorem nar_sound {base : Nat} {x : Nat → Int} (hs : Sound base st.1 x) (h1 : lo ≤ x t - x f) (h2 : x t - x f ≤ hi) : Sound base (nar st f t lo hi).1 x := by
  rcases nar_cases st f t lo hi with ⟨h, _⟩ | ⟨s, n, e1, h, _, _, h3⟩
  · rw [h]; exact hs
  · rw [h]
    intro k q hk
    by_cases e : k = t
    · subst e
      have hk := (upd_at st.1 k n).symm.trans hk
      cases hk
      have a1 := hs f s e1
      rcases h3 with ⟨_, h5⟩ | ⟨o, h4, h5⟩
      · rw [h5]; simp only; omega
      · have a2 := hs k o h4
        rw [h5]; simp only; omega
    · exact hs k q ((upd_ne st.1 n e).symm.trans hk)
/-- Who is told anything is an end of a tie. -/
theorem nar_touch {j : Nat} (h : (nar st f t lo hi).1 j ≠ none) : st.1 j ≠ none ∨ j = t := by
  rcases nar_cases st f t lo hi with ⟨h1, _⟩ | ⟨s, n, _, h1, _⟩
  · rw [h1] at h; exact .inl h
  · rw [h1] at h
    by_cases e : j = t
    · exact .inr e
    · left; rwa [show (upd st.1 t n, true, st.2.2 || decide (n.2 < n.1)).1 j = st.1 j from upd_ne _ _ e] at h
theorem nar_flag (h : (nar st f t lo hi).2.1 = false) : nar st f t lo hi = st ∧ (st.1 f = none ∨ ∃ s o, st.1 f = some s ∧ st.1 t = some o ∧ s.1 + lo ≤ o.1 ∧ o.2 ≤ s.2 + hi) := by
  rcases nar_cases st f t lo hi with h1 | ⟨s, n, _, h1, _⟩
  · exact h1
  · rw [h1] at h; cases h
theorem nar_ne (hn : NE st.1) (h : (nar st f t lo hi).2.2 = false) : NE (nar st f t lo hi).1 := by
  rcases nar_cases st f t lo hi with ⟨h1, _⟩ | ⟨s, n, _, h1, _⟩
  · rw [h1]; exact hn
  · rw [h1] at h ⊢
    intro k q hk
    by_cases e : k = t
    · subst e
      have hk := (upd_at st.1 k n).symm.trans hk
      cases hk
      simp only [Bool.or_eq_false_iff, decide_eq_false_iff_not] at h
      omega
    · exact hn k q ((upd_ne st.1 n e).symm.trans hk)
theorem nar_emp (h : (nar st f t lo hi).2.2 = true) : st.2.2 = true ∨ ¬ NE (nar st f t lo hi).1 := by
  rcases nar_cases st f t lo hi with ⟨h1, _⟩ | ⟨s, n, _, h1, _⟩
  · rw [h1] at h; exact .inl h
  · rw [h1] at h ⊢
    simp only [Bool.or_eq_true, decide_eq_true_eq] at h
    rcases h with h | h
    · exact .inl h
    · exact .inr (fun hn => by have := hn t n (upd_at _ _ _); omega)
theorem nar_keep (h : st.2.2 = true) : (nar st f t lo hi).2.2 = true := by
  rcases nar_cases st f t lo hi with ⟨h1, _⟩ | ⟨s, n, _, h1, _⟩
  · rw [h1]; exact h
  · rw [h1]; simp [h]
end
/-! ## A tie, a round -/
theorem tie_le (st : St) (t : Ti) : Le st.1 (tieS st t).1 := (nar_le _ _ _ _ _).trans (nar_le _ _ _ _ _)
theorem fold_le (ties : List Ti) : ∀ st : St, Le st.1 (ties.foldl tieS st).1 := by
  induction ties with
  | nil => exact fun st => Le.refl _
  | cons t ts ih => exact fun st => (tie_le st t).trans (ih _)
theorem fold_sound {base : Nat} {x : Nat → Int} (ties : List Ti) : ∀ st : St, Sound base st.1 x → Tr ties x → Sound base (ties.foldl tieS st).1 x := by
  induction ties with
  | nil => exact fun st h _ => h
  | cons t ts ih =>
    intro st h hx
    have ht := hx t (by simp)
    exact ih _ (nar_sound (nar_sound h ht.1 ht.2) (by omega) (by omega)) (fun u hu => hx u (by simp [hu]))
theorem fold_does (ties : List Ti) : ∀ (st : St) (t : Ti), t ∈ ties →
    (∀ s, st.1 t.f = some s → ∃ n, (ties.foldl tieS st).1 t.t = some n ∧ s.1 + t.lo ≤ n.1 ∧ n.2 ≤ s.2 + t.hi) ∧
    (∀ s, st.1 t.t = some s → ∃ n, (ties.foldl tieS st).1 t.f = some n ∧ s.1 - t.hi ≤ n.1 ∧ n.2 ≤ s.2 - t.lo) := by
  induction ties with
  | nil => intro st t h; cases h
  | cons u us ih =>
    intro st t ht
    rcases List.mem_cons.1 ht with rfl | h
    · constructor
      · intro s hs
        obtain ⟨n, e, l, r⟩ := nar_does (t := t.t) (lo := t.lo) (hi := t.hi) hs
        obtain ⟨n1, e1, l1, r1⟩ := nar_le (nar st t.f t.t t.lo t.hi) t.t t.f (-t.hi) (-t.lo) _ _ e
        obtain ⟨n2, e2, l2, r2⟩ := fold_le us (tieS st t) _ _ e1
        exact ⟨n2, e2, by omega, by omega⟩
      · intro s hs
        obtain ⟨s1, e, l, r⟩ := nar_le st t.f t.t t.lo t.hi _ _ hs
        obtain ⟨n, e1, l1, r1⟩ := nar_does (st := nar st t.f t.t t.lo t.hi) (t := t.f) (lo := -t.hi) (hi := -t.lo) e
        obtain ⟨n2, e2, l2, r2⟩ := fold_le us (tieS st t) _ _ e1
        exact ⟨n2, e2, by omega, by omega⟩
    · obtain ⟨h1, h2⟩ := ih (tieS st u) t h
      constructor
      · intro s hs
        obtain ⟨s1, e, l, r⟩ := tie_le st u _ _ hs
        obtain ⟨n, e1, l1, r1⟩ := h1 s1 e
        exact ⟨n, e1, by omega, by omega⟩
      · intro s hs
        obtain ⟨s1, e, l, r⟩ := tie_le st u _ _ hs
        obtain ⟨n, e1, l1, r1⟩ := h2 s1 e
        exact ⟨n, e1, by omega, by omega⟩
theorem tie_flag {st : St} {t : Ti} (h : (tieS st t).2.1 = false) : tieS st t = st := by
  have h1 := nar_flag h
  have h2 : (nar st t.f t.t t.lo t.hi).2.1 = false := by have := h1.1; unfold tieS at h; rw [this] at h; exact h
  exact h1.1.trans (nar_flag h2).1
theorem fold_flag (ties : List Ti) : ∀ st : St, (ties.foldl tieS st).2.1 = false → ties.foldl tieS st = st := by
  induction ties with
  | nil => exact fun st _ => rfl
  | cons t ts ih =>
    intro st h
    have h1 := ih (tieS st t) h
    have h2 : (tieS st t).2.1 = false := by rw [← h1]; exact h
    exact h1.trans (tie_flag h2)
theorem fold_ne (ties : List Ti) : ∀ st : St, NE st.1 → (ties.foldl tieS st).2.2 = false → NE (ties.foldl tieS st).1 := by
  have keep : ∀ (ts : List Ti) (st : St), st.2.2 = true → (ts.foldl tieS st).2.2 = true := by
    intro ts
    induction ts with
    | nil => exact fun st h => h
    | cons t ts ih => exact fun st h => ih _ (nar_keep (nar_keep h))
  induction ties with
  | nil => exact fun st h _ => h
  | cons t ts ih =>
    intro st h he
    have e1 : (tieS st t).2.2 = false := by
      cases hc : (tieS st t).2.2
      · rfl
      · have := keep ts _ hc; rw [List.foldl_cons] at he; rw [this] at he; cases he
    have e2 : (nar st t.f t.t t.lo t.hi).2.2 = false := by
      cases hc : (nar st t.f t.t t.lo t.hi).2.2
      · rfl
      · have := nar_keep (t := t.f) (f := t.t) (lo := -t.hi) (hi := -t.lo) hc; unfold tieS at e1; rw [this] at e1; cases e1
    exact ih _ (nar_ne (nar_ne h e2) e1) he
/-- With a truth nothing is empty. -/
theorem fold_emp {base : Nat} {x : Nat → Int} (ties : List Ti) : ∀ st : St, Sound base st.1 x → Tr ties x → st.2.2 = false → (ties.foldl tieS st).2.2 = false := by
  have ne : ∀ b : B, Sound base b x → NE b := fun b h k s hk => by have := h k s hk; omega
  induction ties with
  | nil => exact fun st _ _ h => h
  | cons t ts ih =>
    intro st h hx he
    have ht := hx t (by simp)
    have s1 := nar_sound h ht.1 ht.2
    have s2 : Sound base (tieS st t).1 x := nar_sound s1 (by omega) (by omega)
    refine ih _ s2 (fun u hu => hx u (by simp [hu])) ?_
    have e1 : (nar st t.f t.t t.lo t.hi).2.2 = false := by
      cases hc : (nar st t.f t.t t.lo t.hi).2.2
      · rfl
      · rcases nar_emp hc with h3 | h3
        · rw [he] at h3; cases h3
        · exact absurd (ne _ s1) h3
    cases hc : (tieS st t).2.2
    · rfl
    · rcases nar_emp hc with h3 | h3
      · rw [e1] at h3; cases h3
      · exact absurd (ne _ s2) h3
theorem fold_touch (ties : List Ti) (j : Nat) : ∀ st : St, (ties.foldl tieS st).1 j ≠ none → st.1 j ≠ none ∨ ∃ t ∈ ties, j = t.f ∨ j = t.t := by
  induction ties with
  | nil => exact fun st h => .inl h
  | cons t ts ih =>
    intro st h
    rcases ih (tieS st t) h with h1 | ⟨u, hu, h1⟩
    · rcases nar_touch h1 with h2 | h2
      · rcases nar_touch h2 with h3 | h3
        · exact .inl h3
        · exact .inr ⟨t, by simp, .inr h3⟩
      · exact .inr ⟨t, by simp, .inl h2⟩
    · exact .inr ⟨u, by simp [hu], h1⟩
end Nb
end Go.Proofs.YtcfjakifeihbpaaGreat
