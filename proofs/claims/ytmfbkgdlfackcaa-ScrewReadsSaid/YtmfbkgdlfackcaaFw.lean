/- Bounds on differences of eight points: what remains when all of them have shortened each other says the same, and each of them is reached. Nothing here speaks of a program. -/
namespace Go.Proofs.Ytmfbkgdlfackcaa.Fw

/-- No bound. -/
abbrev F : Int := 1073741824
abbrev Mat := Nat → Nat → Int
/-- Numbers that keep all bounds. -/
def Sol (E : Mat) (x : Nat → Int) : Prop := ∀ i j, i < 8 → j < 8 → E i j ≠ F → x j - x i ≤ E i j
def Bd (E : Mat) (B : Int) : Prop := ∀ i j, i < 8 → j < 8 → E i j ≠ F → -B ≤ E i j ∧ E i j ≤ B
def Cl (E : Mat) (l : Nat) : Prop := ∀ i j, i < 8 → j < 8 → E i l ≠ F → E l j ≠ F → E i j ≠ F ∧ E i j ≤ E i l + E l j
/-- By way of b. -/
def upd (E : Mat) (b : Nat) : Mat := fun i j =>
  if E i b ≠ F ∧ E b j ≠ F then (if E i b + E b j < E i j then E i b + E b j else E i j) else E i j

theorem upd_le (E : Mat) (b i j : Nat) : upd E b i j ≤ E i j := by
  unfold upd; split
  · split <;> omega
  · omega
theorem upd_cases (E : Mat) (b i j : Nat) : (upd E b i j = E i j) ∨ (E i b ≠ F ∧ E b j ≠ F ∧ upd E b i j = E i b + E b j) := by
  unfold upd; split
  · rename_i h; split
    · exact .inr ⟨h.1, h.2, rfl⟩
    · exact .inl rfl
  · exact .inl rfl
theorem upd_sum (E : Mat) (b i j : Nat) (h1 : E i b ≠ F) (h2 : E b j ≠ F) : upd E b i j ≤ E i b + E b j := by
  unfold upd; rw [if_pos ⟨h1, h2⟩]; split <;> omega
theorem upd_col (E : Mat) (b i : Nat) (h : E b b = 0) : upd E b i b = E i b := by
  unfold upd; split
  · rw [h]; split <;> omega
  · rfl
theorem upd_row (E : Mat) (b j : Nat) (h : E b b = 0) : upd E b b j = E b j := by
  unfold upd; split
  · rw [h]; split <;> omega
  · rfl

theorem upd_bd {E : Mat} {B : Int} {b : Nat} (hb : b < 8) (h : Bd E B) (h0 : 0 ≤ B) : Bd (upd E b) (2 * B) := fun i j hi hj hne => by
  have _ := h0
  rcases upd_cases E b i j with e | ⟨h1, h2, e⟩
  · rw [e] at hne ⊢; have := h i j hi hj hne; omega
  · have a := h i b hi hb h1; have c := h b j hb hj h2; omega
/-- What is a bound stays one; what is none has none that leads there. -/
theorem upd_fin {E : Mat} {B : Int} {b : Nat} (hb : b < 8) (h : Bd E B) (h2 : 2 * B < F) {i j : Nat} (hi : i < 8) (hj : j < 8) : upd E b i j ≠ F ↔ (E i j ≠ F ∨ (E i b ≠ F ∧ E b j ≠ F)) := by
  constructor
  · intro hne
    rcases upd_cases E b i j with e | ⟨a, c, _⟩
    · exact .inl (e ▸ hne)
    · exact .inr ⟨a, c⟩
  · intro hh e
    rcases hh with hh | ⟨a, c⟩
    · have := h i j hi hj hh
      have l := upd_le E b i j
      rw [e] at l
      have hF : F = 1073741824 := rfl
      omega
    · have p := h i b hi hb a; have q := h b j hb hj c
      have l := upd_sum E b i j a c
      rw [e] at l
      omega
theorem upd_sol {E : Mat} {B : Int} {b : Nat} (hb : b < 8) (h : Bd E B) (h2 : 2 * B < F) (x : Nat → Int) : Sol (upd E b) x ↔ Sol E x := by
  constructor
  · intro hs i j hi hj hne
    have := hs i j hi hj ((upd_fin hb h h2 hi hj).2 (.inl hne))
    have := upd_le E b i j
    omega
  · intro hs i j hi hj hne
    rcases upd_cases E b i j with e | ⟨a, c, e⟩
    · rw [e] at hne ⊢; exact hs i j hi hj hne
    · have p := hs i b hi hb a; have q := hs b j hb hj c; omega
theorem upd_cl_new {E : Mat} {B : Int} {b : Nat} (hb : b < 8) (h : Bd E B) (h2 : 2 * B < F) (h0 : E b b = 0) : Cl (upd E b) b := fun i j hi hj h1 h3 => by
  rw [upd_col E b i h0] at h1 ⊢
  rw [upd_row E b j h0] at h3 ⊢
  exact ⟨(upd_fin hb h h2 hi hj).2 (.inr ⟨h1, h3⟩), upd_sum E b i j h1 h3⟩
theorem upd_cl_old {E : Mat} {B : Int} {b l : Nat} (hb : b < 8) (h : Bd E B) (h2 : 2 * B < F) (h0 : E b b = 0) (hc : Cl E l) : Cl (upd E b) l := fun i j hi hj h1 h3 => by
  rcases upd_cases E b i l with e1 | ⟨p1, p2, e1⟩ <;> rcases upd_cases E b l j with e2 | ⟨q1, q2, e2⟩
  · rw [e1] at h1 ⊢; rw [e2] at h3 ⊢
    obtain ⟨c1, c2⟩ := hc i j hi hj h1 h3
    exact ⟨(upd_fin hb h h2 hi hj).2 (.inl c1), Int.le_trans (upd_le _ _ _ _) c2⟩
  · rw [e1] at h1 ⊢; rw [e2]
    obtain ⟨c1, c2⟩ := hc i b hi hb h1 q1
    exact ⟨(upd_fin hb h h2 hi hj).2 (.inr ⟨c1, q2⟩), by have := upd_sum E b i j c1 q2; omega⟩
  · rw [e1]; rw [e2] at h3 ⊢
    obtain ⟨c1, c2⟩ := hc b j hb hj p2 h3
    exact ⟨(upd_fin hb h h2 hi hj).2 (.inr ⟨p1, c1⟩), by have := upd_sum E b i j p1 c1; omega⟩
  · rw [e1, e2]
    obtain ⟨_, c2⟩ := hc b b hb hb p2 q1
    exact ⟨(upd_fin hb h h2 hi hj).2 (.inr ⟨p1, q2⟩), by have := upd_sum E b i j p1 q2; omega⟩

/-- Bounds that have shortened each other. -/
structure Short (D : Mat) (B : Int) : Prop where
  zero : ∀ i, i < 8 → D i i = 0
  bd : Bd D B
  cl : ∀ l, l < 8 → Cl D l

theorem least (f : Nat → Int) (ok : Nat → Bool) : ∀ n, (∃ m, m < n ∧ ok m = true) → ∃ m, m < n ∧ ok m = true ∧ ∀ k, k < n → ok k = true → f m ≤ f k
  | 0, h => by obtain ⟨m, hm, _⟩ := h; omega
  | n + 1, h => by
    by_cases hn : ∃ m, m < n ∧ ok m = true
    · obtain ⟨m, hm, ho, hl⟩ := least f ok n hn
      by_cases hon : ok n = true
      · by_cases hf : f m ≤ f n
        · refine ⟨m, by omega, ho, fun k hk hok => ?_⟩
          by_cases e : k = n
          · subst e; exact hf
          · exact hl k (by omega) hok
        · refine ⟨n, by omega, hon, fun k hk hok => ?_⟩
          by_cases e : k = n
          · subst e; omega
          · have := hl k (by omega) hok; omega
      · refine ⟨m, by omega, ho, fun k hk hok => ?_⟩
        by_cases e : k = n
        · subst e; exact absurd hok hon
        · exact hl k (by omega) hok
    · obtain ⟨m, hm, ho⟩ := h
      have e : m = n := by
        by_cases e : m = n
        · exact e
        · exact absurd ⟨m, by omega, ho⟩ hn
      subst e
      refine ⟨m, hm, ho, fun k hk hok => ?_⟩
      by_cases e : k = m
      · subst e; omega
      · exact absurd ⟨k, by omega, hok⟩ hn

/-- Each bound is reached. -/
theorem Short.reach {D : Mat} {B : Int} (h : Short D B) {i j : Nat} (hi : i < 8) (hj : j < 8) (hne : D i j ≠ F) : ∃ x, Sol D x ∧ x i = 0 ∧ x j = D i j := by
  let c : Nat → Int := fun m => if m = i then 0 else 3 * B + 1
  have hx : ∀ k, ∃ v : Int, k < 8 → (∃ m, m < 8 ∧ D m k ≠ F ∧ v = c m + D m k) ∧ ∀ m, m < 8 → D m k ≠ F → v ≤ c m + D m k := fun k => by
    by_cases hk : k < 8
    · obtain ⟨m, hm, ho, hl⟩ := least (fun m => c m + D m k) (fun m => decide (D m k ≠ F)) 8 ⟨k, hk, by rw [h.zero k hk]; decide⟩
      exact ⟨c m + D m k, fun _ => ⟨⟨m, hm, by simpa using ho, rfl⟩, fun q hq hne => hl q hq (by simpa using hne)⟩⟩
    · exact ⟨0, fun h => absurd h hk⟩
  obtain ⟨x, hx⟩ := Classical.axiomOfChoice hx
  have ci : c i = 0 := if_pos rfl
  have cm : ∀ m, m ≠ i → c m = 3 * B + 1 := fun m hm => if_neg hm
  have xi : x i = 0 := by
    obtain ⟨⟨m, hm, hf, e⟩, hl⟩ := hx i hi
    have h1 := hl i hi (by rw [h.zero i hi]; decide)
    rw [ci, h.zero i hi] at h1
    by_cases hmi : m = i
    · subst hmi; rw [e, ci, h.zero m hi]; rfl
    · rw [cm m hmi] at e
      have := h.bd m i hm hi hf
      omega
  refine ⟨x, fun a b ha hb hf => ?_, xi, ?_⟩
  · obtain ⟨⟨m, hm, hma, e⟩, _⟩ := hx a ha
    obtain ⟨_, hl⟩ := hx b hb
    obtain ⟨c1, c2⟩ := h.cl a ha m b hm hb hma hf
    have := hl m hm c1
    omega
  · obtain ⟨⟨m, hm, hf, e⟩, hl⟩ := hx j hj
    have h1 := hl i hi hne
    rw [ci] at h1
    by_cases hmi : m = i
    · subst hmi; rw [e, ci]; omega
    · rw [cm m hmi] at e
      have p := h.bd m j hm hj hf
      have q := h.bd i j hi hj hne
      omega
end Go.Proofs.Ytmfbkgdlfackcaa.Fw
