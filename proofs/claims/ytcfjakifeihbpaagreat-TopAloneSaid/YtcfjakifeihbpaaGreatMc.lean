/- Eye: with a truth the narrowing ends, and each bound is reached. -/
import Derived.Test.YtcfjakifeihbpaaGreatMb
namespace Go.Proofs.YtcfjakifeihbpaaGreat
namespace Nb

theorem exists_max {P : Int → Prop} (B : Int) (hB : ∀ z, P z → z ≤ B) : ∀ (n : Nat) (a : Int), P a → (B - a).toNat ≤ n → ∃ m, P m ∧ ∀ z, P z → z ≤ m := by
  intro n
  induction n with
  | zero =>
    intro a ha hn
    exact ⟨a, ha, fun z hz => by have := hB z hz; omega⟩
  | succ n ih =>
    intro a ha hn
    by_cases h : ∃ z, P z ∧ a < z
    · obtain ⟨z, hz, hlt⟩ := h
      exact ih z hz (by omega)
    · refine ⟨a, ha, fun z hz => ?_⟩
      by_cases h1 : a < z
      · exact absurd ⟨z, hz, h1⟩ h
      · omega
structure Ed where
  f : Nat
  t : Nat
  w : Int
def Pot (E : List Ed) (x : Nat → Int) : Prop := ∀ e ∈ E, x e.t ≤ x e.f + e.w
section
variable {E : List Ed} {base : Nat} {C : Nat → Prop} {U : Nat → Int}
structure IsU (E : List Ed) (base : Nat) (C : Nat → Prop) (U : Nat → Int) : Prop where
  ends : ∀ e ∈ E, C e.f ∧ C e.t
  pot : Pot E U
  up : ∀ k, C k → ∀ x, Pot E x → x k - x base ≤ U k
  at' : ∀ k, C k → ∃ x, Pot E x ∧ x k - x base = U k
  zero : U base = 0
theorem exists_U (hC : ∀ e ∈ E, C e.f ∧ C e.t) (hb : C base) {y : Nat → Int} (hy : Pot E y) (hB : ∀ k, C k → ∃ B : Int, ∀ x, Pot E x → x k - x base ≤ B) : ∃ U, IsU E base C U := by
  have h : ∀ k, ∃ m : Int, C k → (∀ x, Pot E x → x k - x base ≤ m) ∧ ∃ x, Pot E x ∧ x k - x base = m := fun k => by
    by_cases hk : C k
    · obtain ⟨B, hB⟩ := hB k hk
      obtain ⟨m, ⟨x, hx, e⟩, h2⟩ := exists_max (P := fun z => ∃ x, Pot E x ∧ x k - x base = z) B (fun z ⟨x, hx, e⟩ => by rw [← e]; exact hB x hx) _ _ ⟨y, hy, rfl⟩ (Nat.le_refl _)
      exact ⟨m, fun _ => ⟨fun x' hx' => h2 _ ⟨x', hx', rfl⟩, x, hx, e⟩⟩
    · exact ⟨0, fun h => absurd h hk⟩
  obtain ⟨U, hU⟩ := Classical.axiomOfChoice h
  refine ⟨U, hC, fun e he => ?_, fun k hk => (hU k hk).1, fun k hk => (hU k hk).2, ?_⟩
  · obtain ⟨c1, c2⟩ := hC e he
    obtain ⟨x, hx, e1⟩ := (hU _ c2).2
    have := (hU _ c1).1 x hx
    have := hx e he
    omega
  · obtain ⟨x, hx, e1⟩ := (hU _ hb).2
    omega
theorem IsU.tight (u : IsU E base C U) {S : Nat → Prop} {k : Nat} (hk : S k) (hc : C k) (hb : ¬ S base) : ∃ e ∈ E, ¬ S e.f ∧ S e.t ∧ U e.t = U e.f + e.w := by
  by_cases h : ∃ e ∈ E, ¬ S e.f ∧ S e.t ∧ U e.t = U e.f + e.w
  · exact h
  · exfalso
    have hp : Pot E (fun j => open Classical in if S j then U j + 1 else U j) := fun e he => by
      have h0 := u.pot e he
      by_cases h1 : S e.t
      · by_cases h2 : S e.f
        · simp only [if_pos h1, if_pos h2]; omega
        · simp only [if_pos h1, if_neg h2]
          have : U e.t ≠ U e.f + e.w := fun e1 => h ⟨e, he, h2, h1, e1⟩
          omega
      · by_cases h2 : S e.f
        · simp only [if_neg h1, if_pos h2]; omega
        · simp only [if_neg h1, if_neg h2]; omega
    have h1 := u.up k hc _ hp
    simp only [if_pos hk, if_neg hb] at h1
    have := u.zero
    omega
end
/-! ## Both ends -/
def eHi (ties : List Ti) : List Ed := ties.flatMap fun t => [⟨t.f, t.t, t.hi⟩, ⟨t.t, t.f, -t.lo⟩]
def eLo (ties : List Ti) : List Ed := ties.flatMap fun t => [⟨t.f, t.t, -t.lo⟩, ⟨t.t, t.f, t.hi⟩]
theorem pot_hi (ties : List Ti) (x : Nat → Int) : Pot (eHi ties) x ↔ Tr ties x := by
  constructor
  · intro h t ht
    have h1 := h ⟨t.f, t.t, t.hi⟩ (List.mem_flatMap.2 ⟨t, ht, by simp⟩)
    have h2 := h ⟨t.t, t.f, -t.lo⟩ (List.mem_flatMap.2 ⟨t, ht, by simp⟩)
    dsimp only at h1 h2
    omega
  · intro h e he
    obtain ⟨t, ht, h1⟩ := List.mem_flatMap.1 he
    have := h t ht
    simp at h1
    rcases h1 with rfl | rfl <;> dsimp only <;> omega
theorem pot_lo (ties : List Ti) (x : Nat → Int) : Pot (eLo ties) x ↔ Tr ties (fun k => -x k) := by
  constructor
  · intro h t ht
    have h1 := h ⟨t.f, t.t, -t.lo⟩ (List.mem_flatMap.2 ⟨t, ht, by simp⟩)
    have h2 := h ⟨t.t, t.f, t.hi⟩ (List.mem_flatMap.2 ⟨t, ht, by simp⟩)
    dsimp only at h1 h2 ⊢
    omega
  · intro h e he
    obtain ⟨t, ht, h1⟩ := List.mem_flatMap.1 he
    have := h t ht
    simp at h1
    dsimp only at this
    rcases h1 with rfl | rfl <;> dsimp only <;> omega
/-- What is tied, and how far each number can be off. -/
structure Con (ties : List Ti) (base : Nat) (C : Nat → Prop) : Prop where
  ends : ∀ t ∈ ties, C t.f ∧ C t.t
  cb : C base
  lt : ∀ k, C k → k < 11
  bd : ∀ k, C k → ∃ D : Int, ∀ x, Tr ties x → -D ≤ x k - x base ∧ x k - x base ≤ D
structure IsLU (ties : List Ti) (base : Nat) (C : Nat → Prop) (L U : Nat → Int) : Prop where
  u : IsU (eHi ties) base C U
  l : IsU (eLo ties) base C (fun k => -L k)
theorem exists_LU {ties : List Ti} {base : Nat} {C : Nat → Prop} (c : Con ties base C) {y : Nat → Int} (hy : Tr ties y) : ∃ L U, IsLU ties base C L U := by
  have e1 : ∀ e ∈ eHi ties, C e.f ∧ C e.t := fun e he => by
    obtain ⟨t, ht, h1⟩ := List.mem_flatMap.1 he
    have := c.ends t ht
    simp at h1
    rcases h1 with rfl | rfl
    · exact this
    · exact ⟨this.2, this.1⟩
  have e2 : ∀ e ∈ eLo ties, C e.f ∧ C e.t := fun e he => by
    obtain ⟨t, ht, h1⟩ := List.mem_flatMap.1 he
    have := c.ends t ht
    simp at h1
    rcases h1 with rfl | rfl
    · exact this
    · exact ⟨this.2, this.1⟩
  obtain ⟨U, hU⟩ := exists_U e1 c.cb ((pot_hi ties y).2 hy) (fun k hk => by
    obtain ⟨D, hD⟩ := c.bd k hk
    exact ⟨D, fun x hx => (hD x ((pot_hi ties x).1 hx)).2⟩)
  obtain ⟨V, hV⟩ := exists_U e2 c.cb (y := fun k => -y k) ((pot_lo ties _).2 (by simpa using hy)) (fun k hk => by
    obtain ⟨D, hD⟩ := c.bd k hk
    exact ⟨D, fun x hx => by have := (hD _ ((pot_lo ties x).1 hx)).1; (try dsimp only at this); omega⟩)
  exact ⟨fun k => -V k, U, hU, by simpa using hV⟩
section
variable {ties : List Ti} {base : Nat} {C : Nat → Prop} {L U : Nat → Int}
/-- All bounds hold for all truths. -/
def Fair (ties : List Ti) (base : Nat) (b : B) : Prop := ∀ x, Tr ties x → Sound base b x
theorem IsLU.low (h : IsLU ties base C L U) {b : B} (hf : Fair ties base b) {k : Nat} (hk : C k) {s : Int × Int} (hs : b k = some s) : s.1 ≤ L k ∧ U k ≤ s.2 := by
  obtain ⟨x, hx, e⟩ := h.u.at' k hk
  obtain ⟨z, hz, e2⟩ := h.l.at' k hk
  have h1 := hf _ ((pot_hi ties x).1 hx) k s hs
  have h2 := hf _ ((pot_lo ties z).1 hz) k s hs
  (try dsimp only at h2 e2)
  omega
theorem IsLU.tr (h : IsLU ties base C L U) {t : Ti} (ht : t ∈ ties) : L t.f + t.lo ≤ L t.t ∧ U t.t ≤ U t.f + t.hi ∧ L t.t - t.hi ≤ L t.f ∧ U t.f ≤ U t.t - t.lo := by
  have h1 := h.u.pot ⟨t.f, t.t, t.hi⟩ (List.mem_flatMap.2 ⟨t, ht, by simp⟩)
  have h2 := h.u.pot ⟨t.t, t.f, -t.lo⟩ (List.mem_flatMap.2 ⟨t, ht, by simp⟩)
  have h3 := h.l.pot ⟨t.f, t.t, -t.lo⟩ (List.mem_flatMap.2 ⟨t, ht, by simp⟩)
  have h4 := h.l.pot ⟨t.t, t.f, t.hi⟩ (List.mem_flatMap.2 ⟨t, ht, by simp⟩)
  dsimp only at h1 h2 h3 h4
  omega
theorem nar_still {st : St} {f t : Nat} {lo hi : Int} {s o : Int × Int} (hs : st.1 f = some s) (ho : st.1 t = some o) (h1 : s.1 + lo ≤ o.1) (h2 : o.2 ≤ s.2 + hi) : nar st f t lo hi = st := by
  rw [nar_old hs ho, if_pos]
  ext
  · simp only; omega
  · simp only; omega
/-- If all bounds are the truths' nothing changes. -/
theorem IsLU.still (h : IsLU ties base C L U) (c : Con ties base C) {st : St} (hb : ∀ k, C k → st.1 k = some (L k, U k)) : ∀ ts : List Ti, (∀ t ∈ ts, t ∈ ties) → ts.foldl tieS st = st := by
  intro ts
  induction ts with
  | nil => intro _; rfl
  | cons t ts ih =>
    intro hm
    obtain ⟨c1, c2⟩ := c.ends t (hm t (by simp))
    obtain ⟨h1, h2, h3, h4⟩ := h.tr (hm t (by simp))
    have e1 : nar st t.f t.t t.lo t.hi = st := nar_still (hb _ c1) (hb _ c2) h1 h2
    have e2 : tieS st t = st := by
      unfold tieS
      rw [e1]
      exact nar_still (hb _ c2) (hb _ c1) (by simp only; omega) (by simp only; omega)
    rw [List.foldl_cons, e2]
    exact ih (fun u hu => hm u (by simp [hu]))
open Classical in
noncomputable def offU (C : Nat → Prop) (U : Nat → Int) (b : B) : Nat := (List.range 11).countP fun k => decide (C k ∧ ∀ s, b k = some s → s.2 ≠ U k)
open Classical in
noncomputable def offL (C : Nat → Prop) (L : Nat → Int) (b : B) : Nat := (List.range 11).countP fun k => decide (C k ∧ ∀ s, b k = some s → s.1 ≠ L k)
theorem count_lt {p q : Nat → Bool} (l : List Nat) (h : ∀ k ∈ l, q k = true → p k = true) {k : Nat} (hk : k ∈ l) (hp : p k = true) (hq : q k = false) : l.countP q < l.countP p := by
  induction l with
  | nil => cases hk
  | cons a l ih =>
    have hle : ∀ l' : List Nat, (∀ k ∈ l', q k = true → p k = true) → l'.countP q ≤ l'.countP p := fun l' h' => List.countP_mono_left h'
    rw [List.countP_cons, List.countP_cons]
    rcases List.mem_cons.1 hk with rfl | h1
    · have := hle l (fun j hj => h j (by simp [hj]))
      rw [hp, hq]; simp; omega
    · have := ih (fun j hj => h j (by simp [hj])) h1
      have h2 := h a (by simp)
      cases hqa : q a
      · simp; split <;> omega
      · rw [h2 hqa]; simp; omega
theorem Le.offU {b b' : B} (h : IsLU ties base C L U) (hf : Fair ties base b') (hl : Le b b') {k : Nat} (hk : C k) (hs : ∃ s, b k = some s ∧ s.2 = U k) : ∃ s, b' k = some s ∧ s.2 = U k := by
  obtain ⟨s, e, e2⟩ := hs
  obtain ⟨n, e1, _, r⟩ := hl k s e
  have := (h.low hf hk e1).2
  exact ⟨n, e1, by omega⟩
theorem Le.offL {b b' : B} (h : IsLU ties base C L U) (hf : Fair ties base b') (hl : Le b b') {k : Nat} (hk : C k) (hs : ∃ s, b k = some s ∧ s.1 = L k) : ∃ s, b' k = some s ∧ s.1 = L k := by
  obtain ⟨s, e, e2⟩ := hs
  obtain ⟨n, e1, l, _⟩ := hl k s e
  have := (h.low hf hk e1).1
  exact ⟨n, e1, by omega⟩
theorem off_iff {b : B} {k : Nat} {g : Int × Int → Int} {v : Int} : (¬ ∃ s, b k = some s ∧ g s = v) ↔ ∀ s, b k = some s → g s ≠ v :=
  ⟨fun h s hs e => h ⟨s, hs, e⟩, fun h ⟨s, hs, e⟩ => h s hs e⟩
/-- A round brings one more end home. -/
theorem round_U (h : IsLU ties base C L U) (c : Con ties base C) {b : B} (hf' : Fair ties base (roundS ties b).1) (hb : ∃ s, b base = some s ∧ s.2 = U base) (hpos : 0 < offU C U b) : offU C U (roundS ties b).1 < offU C U b := by
  have hle : Le b (roundS ties b).1 := fold_le ties (b, false, false)
  obtain ⟨k0, hk0, hp0⟩ := List.countP_pos_iff.1 hpos
  simp only [decide_eq_true_eq] at hp0
  obtain ⟨e, he, n1, n2, n3⟩ := h.u.tight (S := fun k => C k ∧ ∀ s, b k = some s → s.2 ≠ U k) hp0 hp0.1 (fun hn => by obtain ⟨s, e1, e2⟩ := hb; exact hn.2 s e1 e2)
  obtain ⟨c1, c2⟩ := h.u.ends e he
  have hfin : ∃ s, b e.f = some s ∧ s.2 = U e.f := by
    by_cases hx : ∃ s, b e.f = some s ∧ s.2 = U e.f
    · exact hx
    · exact absurd ⟨c1, (off_iff (g := Prod.snd)).1 hx⟩ n1
  obtain ⟨s, e1, e2⟩ := hfin
  have hnew : ∃ n, (roundS ties b).1 e.t = some n ∧ n.2 = U e.t := by
    obtain ⟨t, ht, hmem⟩ := List.mem_flatMap.1 he
    obtain ⟨d1, d2⟩ := fold_does ties (b, false, false) t ht
    simp at hmem
    rcases hmem with rfl | rfl
    · obtain ⟨n, en, _, r⟩ := d1 s e1
      have := (h.low hf' c2 en).2
      exact ⟨n, en, by dsimp only at n3 e2 this ⊢; omega⟩
    · obtain ⟨n, en, _, r⟩ := d2 s e1
      have := (h.low hf' c2 en).2
      exact ⟨n, en, by dsimp only at n3 e2 this ⊢; omega⟩
  unfold offU
  refine count_lt _ (fun k _ hq => ?_) (List.mem_range.2 (c.lt _ c2)) (k := e.t) ?_ ?_
  · simp only [decide_eq_true_eq] at hq ⊢
    refine ⟨hq.1, (off_iff (g := Prod.snd)).1 fun hs => ?_⟩
    obtain ⟨s', h1, h2⟩ := Le.offU h hf' hle hq.1 hs
    exact hq.2 s' h1 h2
  · simp only [decide_eq_true_eq]; exact n2
  · simp only [decide_eq_false_iff_not]
    intro hn
    obtain ⟨n, h1, h2⟩ := hnew
    exact hn.2 n h1 h2
theorem round_L (h : IsLU ties base C L U) (c : Con ties base C) {b : B} (hf' : Fair ties base (roundS ties b).1) (hb : ∃ s, b base = some s ∧ s.1 = L base) (hpos : 0 < offL C L b) : offL C L (roundS ties b).1 < offL C L b := by
  have hle : Le b (roundS ties b).1 := fold_le ties (b, false, false)
  obtain ⟨k0, hk0, hp0⟩ := List.countP_pos_iff.1 hpos
  simp only [decide_eq_true_eq] at hp0
  obtain ⟨e, he, n1, n2, n3⟩ := h.l.tight (S := fun k => C k ∧ ∀ s, b k = some s → s.1 ≠ L k) hp0 hp0.1 (fun hn => by obtain ⟨s, e1, e2⟩ := hb; exact hn.2 s e1 e2)
  obtain ⟨c1, c2⟩ := h.l.ends e he
  have hfin : ∃ s, b e.f = some s ∧ s.1 = L e.f := by
    by_cases hx : ∃ s, b e.f = some s ∧ s.1 = L e.f
    · exact hx
    · exact absurd ⟨c1, (off_iff (g := Prod.fst)).1 hx⟩ n1
  obtain ⟨s, e1, e2⟩ := hfin
  have hnew : ∃ n, (roundS ties b).1 e.t = some n ∧ n.1 = L e.t := by
    obtain ⟨t, ht, hmem⟩ := List.mem_flatMap.1 he
    obtain ⟨d1, d2⟩ := fold_does ties (b, false, false) t ht
    simp at hmem
    rcases hmem with rfl | rfl
    · obtain ⟨n, en, l, _⟩ := d1 s e1
      have := (h.low hf' c2 en).1
      exact ⟨n, en, by dsimp only at n3 e2 this ⊢; omega⟩
    · obtain ⟨n, en, l, _⟩ := d2 s e1
      have := (h.low hf' c2 en).1
      exact ⟨n, en, by dsimp only at n3 e2 this ⊢; omega⟩
  unfold offL
  refine count_lt _ (fun k _ hq => ?_) (List.mem_range.2 (c.lt _ c2)) (k := e.t) ?_ ?_
  · simp only [decide_eq_true_eq] at hq ⊢
    refine ⟨hq.1, (off_iff (g := Prod.fst)).1 fun hs => ?_⟩
    obtain ⟨s', h1, h2⟩ := Le.offL h hf' hle hq.1 hs
    exact hq.2 s' h1 h2
  · simp only [decide_eq_true_eq]; exact n2
  · simp only [decide_eq_false_iff_not]
    intro hn
    obtain ⟨n, h1, h2⟩ := hnew
    exact hn.2 n h1 h2
theorem off_zero (c : Con ties base C) {b : B} (h1 : offU C U b = 0) (h2 : offL C L b = 0) : ∀ k, C k → b k = some (L k, U k) := fun k hk => by
  have a1 := List.countP_eq_zero.1 h1 k (List.mem_range.2 (c.lt k hk))
  have a2 := List.countP_eq_zero.1 h2 k (List.mem_range.2 (c.lt k hk))
  simp only [decide_eq_true_eq] at a1 a2
  cases hb : b k with
  | none => exact absurd ⟨hk, fun s hs => by rw [hb] at hs; cases hs⟩ a1
  | some s =>
    have e1 : s.2 = U k := by
      by_cases e : s.2 = U k
      · exact e
      · exact absurd ⟨hk, fun s' hs => by rw [hb] at hs; cases hs; exact e⟩ a1
    have e2 : s.1 = L k := by
      by_cases e : s.1 = L k
      · exact e
      · exact absurd ⟨hk, fun s' hs => by rw [hb] at hs; cases hs; exact e⟩ a2
    rw [← e1, ← e2]
/-- With a truth the narrowing comes to an end in time. -/
theorem over_yes (h : IsLU ties base C L U) (c : Con ties base C) {y : Nat → Int} (hy : Tr ties y) : ∀ (n : Nat) (b : B), Fair ties base b → (∃ s, b base = some s ∧ s.1 = L base ∧ s.2 = U base) → offU C U b < n → offL C L b < n → ∃ b', overF ties n b = some b' := by
  intro n
  induction n with
  | zero => intro b _ _ h1 _; omega
  | succ n ih =>
    intro b hf hb h1 h2
    have hf' : Fair ties base (roundS ties b).1 := fun x hx => fold_sound ties (b, false, false) (hf x hx) hx
    have he : (roundS ties b).2.2 = false := fold_emp ties (b, false, false) (hf y hy) hy rfl
    unfold overF
    rw [if_neg (by rw [he]; decide)]
    cases hc : (roundS ties b).2.1
    · exact ⟨_, by rw [if_neg (by decide)]⟩
    · rw [if_pos rfl]
      obtain ⟨s, e1, e2, e3⟩ := hb
      have hb' : ∃ s, (roundS ties b).1 base = some s ∧ s.1 = L base ∧ s.2 = U base := by
        obtain ⟨n1, g1, l, r⟩ := fold_le ties (b, false, false) base s e1
        have := h.low hf' c.cb g1
        exact ⟨n1, g1, by omega, by omega⟩
      have hnz : ¬ (offU C U b = 0 ∧ offL C L b = 0) := fun hz => by
        have := h.still c (st := (b, false, false)) (off_zero c hz.1 hz.2) ties (fun t ht => ht)
        unfold roundS at hc
        rw [this] at hc
        cases hc
      have hU : offU C U (roundS ties b).1 ≤ offU C U b ∧ (0 < offU C U b → offU C U (roundS ties b).1 < offU C U b) := by
        refine ⟨?_, fun hp => round_U h c hf' ⟨s, e1, e3⟩ hp⟩
        by_cases hp : 0 < offU C U b
        · have := round_U h c hf' ⟨s, e1, e3⟩ hp; omega
        · unfold offU at hp ⊢
          refine List.countP_mono_left fun k _ hq => ?_
          simp only [decide_eq_true_eq] at hq ⊢
          refine ⟨hq.1, (off_iff (g := Prod.snd)).1 fun hs => ?_⟩
          obtain ⟨s', g1, g2⟩ := Le.offU h hf' (fold_le ties (b, false, false)) hq.1 hs
          exact hq.2 s' g1 g2
      have hL : offL C L (roundS ties b).1 ≤ offL C L b ∧ (0 < offL C L b → offL C L (roundS ties b).1 < offL C L b) := by
        refine ⟨?_, fun hp => round_L h c hf' ⟨s, e1, e2⟩ hp⟩
        by_cases hp : 0 < offL C L b
        · have := round_L h c hf' ⟨s, e1, e2⟩ hp; omega
        · unfold offL at hp ⊢
          refine List.countP_mono_left fun k _ hq => ?_
          simp only [decide_eq_true_eq] at hq ⊢
          refine ⟨hq.1, (off_iff (g := Prod.fst)).1 fun hs => ?_⟩
          obtain ⟨s', g1, g2⟩ := Le.offL h hf' (fold_le ties (b, false, false)) hq.1 hs
          exact hq.2 s' g1 g2
      refine ih _ hf' hb' ?_ ?_
      · rcases Nat.eq_zero_or_pos (offU C U b) with hz | hp
        · rcases Nat.eq_zero_or_pos (offL C L b) with hz2 | hp2
          · exact absurd ⟨hz, hz2⟩ hnz
          · omega
        · have := hU.2 hp; omega
      · rcases Nat.eq_zero_or_pos (offL C L b) with hz | hp
        · rcases Nat.eq_zero_or_pos (offU C U b) with hz2 | hp2
          · exact absurd ⟨hz2, hz⟩ hnz
          · omega
        · have := hL.2 hp; omega
end
end Nb
end Go.Proofs.YtcfjakifeihbpaaGreat
