/- Eye: what the narrowing tells of a watch. -/
import Derived.Test.YtcfjakifeihbpaaGreatMc
namespace Go.Proofs.YtcfjakifeihbpaaGreat
namespace Nb

structure Nx (ties : List Ti) (b0 b : B) : Prop where
  le : Le b0 b
  so : ∀ base x, Tr ties x → Sound base b0 x → Sound base b x
  ne : NE b0 → NE b
  to : ∀ j, b j ≠ none → b0 j ≠ none ∨ ∃ t ∈ ties, j = t.f ∨ j = t.t
theorem over_some (ties : List Ti) : ∀ (n : Nat) (b0 b : B), overF ties n b0 = some b → Nx ties b0 b ∧ ties.foldl tieS (b, false, false) = (b, false, false) := by
  intro n
  induction n with
  | zero => intro b0 b h; cases h
  | succ n ih =>
    intro b0 b h
    unfold overF at h
    cases he : (roundS ties b0).2.2 with
    | true => rw [he, if_pos rfl] at h; cases h
    | false =>
      rw [he, if_neg (by decide)] at h
      have hN : Nx ties b0 (roundS ties b0).1 := ⟨fold_le ties (b0, false, false), fun base x hx hs => fold_sound ties (b0, false, false) hs hx, fun hn => fold_ne ties (b0, false, false) hn he, fun j hj => fold_touch ties j (b0, false, false) hj⟩
      cases hc : (roundS ties b0).2.1 with
      | true =>
        rw [hc, if_pos rfl] at h
        obtain ⟨h1, h2⟩ := ih _ _ h
        refine ⟨⟨hN.le.trans h1.le, fun base x hx hs => h1.so base x hx (hN.so base x hx hs), fun hn => h1.ne (hN.ne hn), fun j hj => ?_⟩, h2⟩
        rcases h1.to j hj with h3 | h3
        · exact hN.to j h3
        · exact .inr h3
      | false =>
        rw [hc, if_neg (by decide)] at h
        have e : roundS ties b0 = (b0, false, false) := fold_flag ties (b0, false, false) hc
        have e1 : b = b0 := by rw [e] at h; cases h; rfl
        subst e1
        exact ⟨by rw [e] at hN; exact hN, e⟩
/-- One tie of bounds that change no more. -/
theorem fix_tie {ties : List Ti} {b : B} (hf : ties.foldl tieS (b, false, false) = (b, false, false)) {t : Ti} (ht : t ∈ ties) :
    (∀ s, b t.f = some s → ∃ n, b t.t = some n ∧ s.1 + t.lo ≤ n.1 ∧ n.2 ≤ s.2 + t.hi) ∧ (∀ s, b t.t = some s → ∃ n, b t.f = some n ∧ s.1 - t.hi ≤ n.1 ∧ n.2 ≤ s.2 - t.lo) := by
  have := fold_does ties (b, false, false) t ht
  rw [hf] at this
  exact this
def Ends (ties : List Ti) (base k : Nat) (s : Int × Int) : Prop :=
  (∀ x, Tr ties x → s.1 ≤ x k - x base ∧ x k - x base ≤ s.2) ∧ (∃ x, Tr ties x ∧ x k - x base = s.1) ∧ ∃ x, Tr ties x ∧ x k - x base = s.2
theorem Ends.unique {ties : List Ti} {base k : Nat} {s s' : Int × Int} (h : Ends ties base k s) (h' : Ends ties base k s') : s = s' := by
  obtain ⟨a, ⟨x, hx, ex⟩, y, hy, ey⟩ := h
  obtain ⟨a', ⟨x', hx', ex'⟩, y', hy', ey'⟩ := h'
  have h1 := a _ hx'; have h2 := a _ hy'; have h3 := a' _ hx; have h4 := a' _ hy
  ext <;> omega

/-! ## A watch -/
/-- A look that counts: measurer, image, and the travel of its reading. -/
structure Lk where
  e : Nat
  i : Nat
  lo : Int
  hi : Int
def tiesW (E : Nat) (hab : Nat → Int × Int) (ls : List Lk) : List Ti := (List.range E).map (fun e => ⟨0, 1 + e, (hab e).1, (hab e).2⟩) ++ ls.map (fun l => ⟨1 + l.e, 5 + l.i, l.lo, l.hi⟩)
structure Wok (E : Nat) (ls : List Lk) : Prop where
  e4 : E ≤ 4
  e : ∀ l ∈ ls, l.e < E
  i : ∀ l ∈ ls, l.i < 6
def isBase (E base : Nat) : Prop := base = 0 ∨ ∃ e, e < E ∧ base = 1 + e
def inC (E : Nat) (ls : List Lk) (k : Nat) : Prop := k = 0 ∨ (∃ e, e < E ∧ k = 1 + e) ∨ ∃ l ∈ ls, k = 5 + l.i
section
variable {E : Nat} {hab : Nat → Int × Int} {ls : List Lk} {base : Nat} {x : Nat → Int}
theorem trW : Tr (tiesW E hab ls) x ↔ (∀ e, e < E → (hab e).1 ≤ x (1 + e) - x 0 ∧ x (1 + e) - x 0 ≤ (hab e).2) ∧ ∀ l ∈ ls, l.lo ≤ x (5 + l.i) - x (1 + l.e) ∧ x (5 + l.i) - x (1 + l.e) ≤ l.hi := by
  constructor
  · intro h
    exact ⟨fun e he => h ⟨0, 1 + e, _, _⟩ (List.mem_append.2 (.inl (List.mem_map.2 ⟨e, List.mem_range.2 he, rfl⟩))), fun l hl => h ⟨1 + l.e, 5 + l.i, l.lo, l.hi⟩ (List.mem_append.2 (.inr (List.mem_map.2 ⟨l, hl, rfl⟩)))⟩
  · rintro ⟨h1, h2⟩ t ht
    rcases List.mem_append.1 ht with h | h
    · obtain ⟨e, he, rfl⟩ := List.mem_map.1 h
      exact h1 e (List.mem_range.1 he)
    · obtain ⟨l, hl, rfl⟩ := List.mem_map.1 h
      exact h2 l hl
theorem conW (w : Wok E ls) (hb : isBase E base) : Con (tiesW E hab ls) base (inC E ls) := by
  have h4 := w.e4
  refine ⟨fun t ht => ?_, ?_, fun k hk => ?_, fun k hk => ?_⟩
  · rcases List.mem_append.1 ht with h | h
    · obtain ⟨e, he, rfl⟩ := List.mem_map.1 h
      exact ⟨.inl rfl, .inr (.inl ⟨e, List.mem_range.1 he, rfl⟩)⟩
    · obtain ⟨l, hl, rfl⟩ := List.mem_map.1 h
      exact ⟨.inr (.inl ⟨l.e, w.e l hl, rfl⟩), .inr (.inr ⟨l, hl, rfl⟩)⟩
  · rcases hb with h | h
    · exact .inl h
    · exact .inr (.inl h)
  · rcases hk with h | ⟨e, he, h⟩ | ⟨l, hl, h⟩
    · omega
    · omega
    · have := w.i l hl; omega
  · have key : ∀ e, e < E → ∃ D : Int, ∀ x, Tr (tiesW E hab ls) x → -D ≤ x (1 + e) - x 0 ∧ x (1 + e) - x 0 ≤ D := fun e he =>
      ⟨max (-(hab e).1) (hab e).2, fun x hx => by have := (trW.1 hx).1 e he; omega⟩
    obtain ⟨D0, h0⟩ : ∃ D : Int, ∀ x, Tr (tiesW E hab ls) x → -D ≤ x base - x 0 ∧ x base - x 0 ≤ D := by
      rcases hb with h | ⟨e, he, h⟩
      · exact ⟨0, fun x _ => by rw [h]; omega⟩
      · rw [h]; exact key e he
    rcases hk with h | ⟨e, he, h⟩ | ⟨l, hl, h⟩
    · exact ⟨D0, fun x hx => by have := h0 x hx; rw [h]; omega⟩
    · obtain ⟨D1, h1⟩ := key e he
      exact ⟨D0 + D1, fun x hx => by have := h0 x hx; have := h1 x hx; rw [h]; omega⟩
    · obtain ⟨D1, h1⟩ := key l.e (w.e l hl)
      exact ⟨D0 + D1 + max (-l.lo) l.hi, fun x hx => by have := h0 x hx; have := h1 x hx; have := (trW.1 hx).2 l hl; rw [h]; omega⟩
theorem start_fair (ties : List Ti) (base : Nat) : Fair ties base (start base) := fun x _ k s hs => by
  unfold start at hs
  by_cases e : k = base
  · subst e; rw [if_pos rfl] at hs; cases hs; simp
  · rw [if_neg e] at hs; cases hs
theorem start_base (base : Nat) : start base base = some (0, 0) := if_pos rfl
theorem start_ne (base : Nat) : NE (start base) := fun k s hs => by
  unfold start at hs
  by_cases e : k = base
  · rw [if_pos e] at hs; cases hs; simp
  · rw [if_neg e] at hs; cases hs
/-- With a truth there is an answer. -/
theorem overW_yes (w : Wok E ls) (hb : isBase E base) (hx : Tr (tiesW E hab ls) x) : ∃ b, overF (tiesW E hab ls) 11 (start base) = some b := by
  have c := conW (hab := hab) w hb
  obtain ⟨L, U, h⟩ := exists_LU c hx
  have z1 := h.u.zero
  have z2 := h.l.zero
  have hcount : ∀ p : Nat → Bool, p base = false → base < 11 → (List.range 11).countP p < 11 := fun p hp hlt => by
    have := count_lt (p := fun _ => true) (q := p) (List.range 11) (fun _ _ _ => rfl) (List.mem_range.2 hlt) rfl hp
    have e : (List.range 11).countP (fun _ => true) = 11 := by decide
    omega
  have hlt := c.lt base c.cb
  refine over_yes h c hx 11 (start base) (start_fair _ _) ⟨(0, 0), start_base base, by dsimp only at z2 ⊢; omega, by dsimp only; omega⟩ ?_ ?_
  · refine hcount _ ?_ hlt
    simp only [decide_eq_false_iff_not]
    intro hn
    exact hn.2 _ (start_base base) (by dsimp only; omega)
  · refine hcount _ ?_ hlt
    simp only [decide_eq_false_iff_not]
    intro hn
    exact hn.2 _ (start_base base) (by dsimp only at z2 ⊢; omega)
/-- What an answer tells. -/
theorem overW_some (w : Wok E ls) (hb : isBase E base) {b : B} (h : overF (tiesW E hab ls) 11 (start base) = some b) :
    (∃ x, Tr (tiesW E hab ls) x) ∧ (∀ k, inC E ls k → ∃ s, b k = some s ∧ Ends (tiesW E hab ls) base k s) ∧ ∀ k, ¬ inC E ls k → b k = none := by
  obtain ⟨nx, hf⟩ := over_some _ _ _ _ h
  have c := conW (hab := hab) w hb
  have hne := nx.ne (start_ne base)
  have hbase : b base = some (0, 0) := by
    obtain ⟨s, e, l, r⟩ := nx.le base _ (start_base base)
    have := hne base s e
    dsimp only at l r
    rw [e]
    congr 1
    ext <;> simp only <;> omega
  have hfix := fun t ht => fix_tie hf (t := t) ht
  have habt : ∀ e, e < E → (⟨0, 1 + e, (hab e).1, (hab e).2⟩ : Ti) ∈ tiesW E hab ls := fun e he => List.mem_append.2 (.inl (List.mem_map.2 ⟨e, List.mem_range.2 he, rfl⟩))
  have h0 : ∃ s, b 0 = some s := by
    rcases hb with e | ⟨e, he, e1⟩
    · exact ⟨_, by rw [← e]; exact hbase⟩
    · obtain ⟨n, en, _⟩ := (hfix _ (habt e he)).2 _ (by dsimp only; rw [← e1]; exact hbase)
      exact ⟨n, en⟩
  have hk : ∀ k, inC E ls k → ∃ s, b k = some s := by
    have he1 : ∀ e, e < E → ∃ s, b (1 + e) = some s := fun e he => by
      obtain ⟨s, es⟩ := h0
      obtain ⟨n, en, _⟩ := (hfix _ (habt e he)).1 _ es
      exact ⟨n, en⟩
    intro k hk
    rcases hk with rfl | ⟨e, he, rfl⟩ | ⟨l, hl, rfl⟩
    · exact h0
    · exact he1 e he
    · obtain ⟨s, es⟩ := he1 l.e (w.e l hl)
      obtain ⟨n, en, _⟩ := (hfix ⟨1 + l.e, 5 + l.i, l.lo, l.hi⟩ (List.mem_append.2 (.inr (List.mem_map.2 ⟨l, hl, rfl⟩)))).1 _ es
      exact ⟨n, en⟩
  have hhi : Tr (tiesW E hab ls) (fun k => match b k with | some s => s.2 | none => 0) := fun t ht => by
    obtain ⟨s, es⟩ := hk _ (c.ends t ht).1
    obtain ⟨n, en, _, r⟩ := (hfix t ht).1 s es
    obtain ⟨n', en', _, r'⟩ := (hfix t ht).2 n en
    rw [es] at en'; cases en'
    simp only [es, en]
    omega
  have hlo : Tr (tiesW E hab ls) (fun k => match b k with | some s => s.1 | none => 0) := fun t ht => by
    obtain ⟨s, es⟩ := hk _ (c.ends t ht).1
    obtain ⟨n, en, l, _⟩ := (hfix t ht).1 s es
    obtain ⟨n', en', l', _⟩ := (hfix t ht).2 n en
    rw [es] at en'; cases en'
    simp only [es, en]
    omega
  refine ⟨⟨_, hhi⟩, fun k hkc => ?_, fun k hkc => ?_⟩
  · obtain ⟨s, es⟩ := hk k hkc
    refine ⟨s, es, fun x hx => nx.so base x hx (start_fair _ _ x hx) k s es, ⟨_, hlo, ?_⟩, _, hhi, ?_⟩
    · simp only [es, hbase]; omega
    · simp only [es, hbase]; omega
  · cases hbk : b k with
    | none => rfl
    | some s =>
      exfalso
      rcases nx.to k (by rw [hbk]; exact fun e => by cases e) with h1 | ⟨t, ht, h1⟩
      · by_cases e : k = base
        · exact hkc (by rw [e]; exact c.cb)
        · exact h1 (if_neg e)
      · have := c.ends t ht
        rcases h1 with h1 | h1
        · exact hkc (by rw [h1]; exact this.1)
        · exact hkc (by rw [h1]; exact this.2)
end
end Nb
end Go.Proofs.YtcfjakifeihbpaaGreat
