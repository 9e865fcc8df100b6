/- Bounds on differences of eight points: what remains when all of them have shortened each other says the same, and each of them is reached. Nothing here speaks of a program. -/
import Derived.Test.YtmfbkgdlfackcaaBnd
namespace Go.Proofs.Ytmfbkgdlfackcaa.Fw

/-- No bound. -/
abbrev F : Int := 1073741824
abbrev Mat := Nat → Nat → Int
/-- Numbers that keep all bounds. -/
def Sol (E : Mat) (x : Nat → Int) : Prop := ∀ i j, i < 8 → j < 8 → E i j ≠ F → x j - x i ≤ E i j
def Bd (E : Mat) (B : Int) : Prop := ∀ i j, i < 8 → j < 8 → E i j ≠ F → -B ≤ E i j ∧ E i j ≤ B
def Cl (E : Mat) (l : Nat) : Prop := ∀ i j, i < 8 → j < 8 → E i l ≠ F → E l j ≠ F → E i j ≠ F ∧ E i j ≤ E i l + E l j
/-- By way of b. -/
def upd (E : Mat) (b : Nat) : Mat := fun i j =>
  if E i b ≠ F ∧ E b j ≠ F then (if E i b + E b j < E i j then E i b + E b j else E i j) else E i j

theorem upd_le (E : Mat) (b i j : Nat) : upd E b i j ≤ E i j := by
  unfold upd; split
  · split <;> omega
  · omega
theorem upd_cases (E : Mat) (b i j : Nat) : (upd E b i j = E i j) ∨ (E i b ≠ F ∧ E b j ≠ F ∧ upd E b i j = E i b + E b j) := by
  unfold upd; split
  · rename_i h; split
    · exact .inr ⟨h.1, h.2, rfl⟩
    · exact .inl rfl
  · exact .inl rfl
theorem upd_sum (E : Mat) (b i j : Nat) (h1 : E i b ≠ F) (h2 : E b j ≠ F) : upd E b i j ≤ E i b + E b j := by
  unfold upd; rw [if_pos ⟨h1, h2⟩]; split <;> omega
theorem upd_col (E : Mat) (b i : Nat) (h : E b b = 0) : upd E b i b = E i b := by
  unfold upd; split
  · rw [h]; split <;> omega
  · rfl
theorem upd_row (E : Mat) (b j : Nat) (h : E b b = 0) : upd E b b j = E b j := by
  unfold upd; split
  · rw [h]; split <;> omega
  · rfl

theorem upd_bd {E : Mat} {B : Int} {b : Nat} (hb : b < 8) (h : Bd E B) (h0 : 0 ≤ B) : Bd (upd E b) (2 * B) := fun i j hi hj hne => by
  have _ := h0
  rcases upd_cases E b i j with e | ⟨h1, h2, e⟩
  · rw [e] at hne ⊢; have := h i j hi hj hne; omega
  · have a := h i b hi hb h1; have c := h b j hb hj h2; omega
/-- What is a bound stays one; what is none has none that leads there. -/
theorem upd_fin {E : Mat} {B : Int} {b : Nat} (hb : b < 8) (h : Bd E B) (h2 : 2 * B < F) {i j : Nat} (hi : i < 8) (hj : j < 8) : upd E b i j ≠ F ↔ (E i j ≠ F ∨ (E i b ≠ F ∧ E b j ≠ F)) := by
  constructor
  · intro hne
    rcases upd_cases E b i j with e | ⟨a, c, _⟩
    · exact .inl (e ▸ hne)
    · exact .inr ⟨a, c⟩
  · intro hh e
    rcases hh with hh | ⟨a, c⟩
    · have := h i j hi hj hh
      have l := upd_le E b i j
      rw [e] at l
      have hF : F = 1073741824 := rfl
      omega
    · have p := h i b hi hb a; have q := h b j hb hj c
      have l := upd_sum E b i j a c
      rw [e] at l
      omega
theorem upd_sol {E : Mat} {B : Int} {b : Nat} (hb : b < 8) (h : Bd E B) (h2 : 2 * B < F) (x : Nat → Int) : Sol (upd E b) x ↔ Sol E x := by
  constructor
  · intro hs i j hi hj hne
    have := hs i j hi hj ((upd_fin hb h h2 hi hj).2 (.inl hne))
    have := upd_le E b i j
    omega
  · intro hs i j hi hj hne
    rcases upd_cases E b i j with e | ⟨a, c, e⟩
    · rw [e] at hne ⊢; exact hs i j hi hj hne
    · have p := hs i b hi hb a; have q := hs b j hb hj c; omega
theorem upd_cl_new {E : Mat} {B : Int} {b : Nat} (hb : b < 8) (h : Bd E B) (h2 : 2 * B < F) (h0 : E b b = 0) : Cl (upd E b) b := fun i j hi hj h1 h3 => by
  rw [upd_col E b i h0] at h1 ⊢
  rw [upd_row E b j h0] at h3 ⊢
  exact ⟨(upd_fin hb h h2 hi hj).2 (.inr ⟨h1, h3⟩), upd_sum E b i j h1 h3⟩
theorem upd_cl_old {E : Mat} {B : Int} {b l : Nat} (hb : b < 8) (h : Bd E B) (h2 : 2 * B < F) (h0 : E b b = 0) (hc : Cl E l) : Cl (upd E b) l := fun i j hi hj h1 h3 => by
  rcases upd_cases E b i l with e1 | ⟨p1, p2, e1⟩ <;> rcases upd_cases E b l j with e2 | ⟨q1, q2, e2⟩
  · rw [e1] at h1 ⊢; rw [e2] at h3 ⊢
    obtain ⟨c1, c2⟩ := hc i j hi hj h1 h3
    exact ⟨(upd_fin hb h h2 hi hj).2 (.inl c1), Int.le_trans (upd_le _ _ _ _) c2⟩
  · rw [e1] at h1 ⊢; rw [e2]
    obtain ⟨c1, c2⟩ := hc i b hi hb h1 q1
    exact ⟨(upd_fin hb h h2 hi hj).2 (.inr ⟨c1, q2⟩), by have := upd_sum E b i j c1 q2; omega⟩
  · rw [e1]; rw [e2] at h3 ⊢
    obtain ⟨c1, c2⟩ := hc b j hb hj p2 h3
    exact ⟨(upd_fin hb h h2 hi hj).2 (.inr ⟨p1, c1⟩), by have := upd_sum E b i j p1 c1; omega⟩
  · rw [e1, e2]
    obtain ⟨_, c2⟩ := hc b b hb hb p2 q1
    exact ⟨(upd_fin hb h h2 hi hj).2 (.inr ⟨p1, q2⟩), by have := upd_sum E b i j p1 q2; omega⟩

/-- Bounds that have shortened each other. -/
structure Short (D : Mat) (B : Int) : Prop where
  zero : ∀ i, i < 8 → D i i = 0
  bd : Bd D B
  cl : ∀ l, l < 8 → Cl D l

theorem least (f : Nat → Int) (ok : Nat → Bool) : ∀ n, (∃ m, m < n ∧ ok m = true) → ∃ m, m < n ∧ ok m = true ∧ ∀ k, k < n → ok k = true → f m ≤ f k
  | 0, h => by obtain ⟨m, hm, _⟩ := h; omega
  | n + 1, h => by
    by_cases hn : ∃ m, m < n ∧ ok m = true
    · obtain ⟨m, hm, ho, hl⟩ := least f ok n hn
      by_cases hon : ok n = true
      · by_cases hf : f m ≤ f n
        · refine ⟨m, by omega, ho, fun k hk hok => ?_⟩
          by_cases e : k = n
          · subst e; exact hf
          · exact hl k (by omega) hok
        · refine ⟨n, by omega, hon, fun k hk hok => ?_⟩
          by_cases e : k = n
          · subst e; omega
          · have := hl k (by omega) hok; omega
      · refine ⟨m, by omega, ho, fun k hk hok => ?_⟩
        by_cases e : k = n
        · subst e; exact absurd hok hon
        · exact hl k (by omega) hok
    · obtain ⟨m, hm, ho⟩ := h
      have e : m = n := by
        by_cases e : m = n
        · exact e
        · exact absurd ⟨m, by omega, ho⟩ hn
      subst e
      refine ⟨m, hm, ho, fun k hk hok => ?_⟩
      by_cases e : k = m
      · subst e; omega
      · exact absurd ⟨k, by omega, hok⟩ hn

/-- Each bound is reached. -/
theorem Short.reach {D : Mat} {B : Int} (h : Short D B) {i j : Nat} (hi : i < 8) (hj : j < 8) (hne : D i j ≠ F) : ∃ x, Sol D x ∧ x i = 0 ∧ x j = D i j := by
  let c : Nat → Int := fun m => if m = i then 0 else 3 * B + 1
  have hx : ∀ k, ∃ v : Int, k < 8 → (∃ m, m < 8 ∧ D m k ≠ F ∧ v = c m + D m k) ∧ ∀ m, m < 8 → D m k ≠ F → v ≤ c m + D m k := fun k => by
    by_cases hk : k < 8
    · obtain ⟨m, hm, ho, hl⟩ := least (fun m => c m + D m k) (fun m => decide (D m k ≠ F)) 8 ⟨k, hk, by rw [h.zero k hk]; decide⟩
      exact ⟨c m + D m k, fun _ => ⟨⟨m, hm, by simpa using ho, rfl⟩, fun q hq hne => hl q hq (by simpa using hne)⟩⟩
    · exact ⟨0, fun h => absurd h hk⟩
  obtain ⟨x, hx⟩ := Classical.axiomOfChoice hx
  have ci : c i = 0 := if_pos rfl
  have cm : ∀ m, m ≠ i → c m = 3 * B + 1 := fun m hm => if_neg hm
  have xi : x i = 0 := by
    obtain ⟨⟨m, hm, hf, e⟩, hl⟩ := hx i hi
    have h1 := hl i hi (by rw [h.zero i hi]; decide)
    rw [ci, h.zero i hi] at h1
    by_cases hmi : m = i
    · subst hmi; rw [e, ci, h.zero m hi]; rfl
    · rw [cm m hmi] at e
      have := h.bd m i hm hi hf
      omega
  refine ⟨x, fun a b ha hb hf => ?_, xi, ?_⟩
  · obtain ⟨⟨m, hm, hma, e⟩, _⟩ := hx a ha
    obtain ⟨_, hl⟩ := hx b hb
    obtain ⟨c1, c2⟩ := h.cl a ha m b hm hb hma hf
    have := hl m hm c1
    omega
  · obtain ⟨⟨m, hm, hf, e⟩, hl⟩ := hx j hj
    have h1 := hl i hi hne
    rw [ci] at h1
    by_cases hmi : m = i
    · subst hmi; rw [e, ci]; omega
    · rw [cm m hmi] at e
      have p := h.bd m j hm hj hf
      have q := h.bd i j hi hj hne
      omega
end Go.Proofs.Ytmfbkgdlfackcaa.Fw

/- The program's bounds, as lists of 64 numbers, shorten each other as the theory of bounds says. -/
namespace Go.Proofs.Ytmfbkgdlfackcaa
open Fw Go.RowKit

def ent (M : List Int) : Mat := fun i j => gx M (i * 8 + j)
theorem Sol.congr {E E' : Mat} (h : ∀ i j, i < 8 → j < 8 → E i j = E' i j) (x : Nat → Int) : Sol E x ↔ Sol E' x :=
  ⟨fun hs i j hi hj hne => by rw [← h i j hi hj] at hne ⊢; exact hs i j hi hj hne, fun hs i j hi hj hne => by rw [h i j hi hj] at hne ⊢; exact hs i j hi hj hne⟩
theorem Bd.congr {E E' : Mat} {B : Int} (h : ∀ i j, i < 8 → j < 8 → E i j = E' i j) (hb : Bd E B) : Bd E' B := fun i j hi hj hne => by rw [← h i j hi hj] at hne ⊢; exact hb i j hi hj hne
theorem Cl.congr {E E' : Mat} {l : Nat} (hl : l < 8) (h : ∀ i j, i < 8 → j < 8 → E i j = E' i j) (hb : Cl E l) : Cl E' l := fun i j hi hj h1 h2 => by
  rw [← h i l hi hl] at h1 ⊢; rw [← h l j hl hj] at h2 ⊢; rw [← h i j hi hj]; exact hb i j hi hj h1 h2

theorem len_shortStep' (M : List Int) (f b t : Nat) : (shortStep M f b t).length = M.length := by unfold shortStep; split <;> simp
theorem gx_ent {M : List Int} {i j : Nat} : gx M (i * 8 + j) = ent M i j := rfl
theorem shortStep_ent {M : List Int} (hl : M.length = 64) {f b t : Nat} (hf : f < 8) (ht : t < 8)
    (hw : ent M f b ≠ F → ent M b t ≠ F → wrap64 (ent M f b + ent M b t) = ent M f b + ent M b t) {i j : Nat} (hj : j < 8) :
    ent (shortStep M f b t) i j = if i = f ∧ j = t then upd (ent M) b f t else ent M i j := by
  unfold shortStep upd ent
  unfold ent at hw
  simp only [bne_iff_ne]
  by_cases hc : gx M (f * 8 + b) ≠ F ∧ gx M (b * 8 + t) ≠ F
  · simp only [if_pos hc, hw hc.1 hc.2]
    rw [gx_set _ _ _ _ (by omega)]
    by_cases e : i = f ∧ j = t
    · rw [if_pos e, if_pos (by omega)]
    · rw [if_neg e, if_neg (by omega)]
  · simp only [if_neg hc]
    split
    · rename_i e; rw [e.1, e.2]
    · rfl
theorem row_ent {M : List Int} (hl : M.length = 64) {f b : Nat} (hf : f < 8) (hb : b < 8) (h0 : ent M b b = 0)
    (hw : ∀ t, t < 8 → ent M f b ≠ F → ent M b t ≠ F → wrap64 (ent M f b + ent M b t) = ent M f b + ent M b t) :
    ∀ n, n ≤ 8 → (itS (fun t M => shortStep M f b t) n M).length = 64 ∧ ∀ i j, i < 8 → j < 8 → ent (itS (fun t M => shortStep M f b t) n M) i j = if i = f ∧ j < n then upd (ent M) b f j else ent M i j
  | 0, _ => ⟨hl, fun i j _ _ => by rw [if_neg (by omega)]; rfl⟩
  | n + 1, hn => by
    obtain ⟨l1, h1⟩ := row_ent hl hf hb h0 hw n (by omega)
    rw [itS]
    have e1 : ent (itS (fun t M => shortStep M f b t) n M) f b = ent M f b := by
      rw [h1 f b hf hb]; split
      · exact upd_col _ _ _ h0
      · rfl
    have e2 : ent (itS (fun t M => shortStep M f b t) n M) b n = ent M b n := by
      rw [h1 b n hb (by omega), if_neg (by omega)]
    have e3 : ent (itS (fun t M => shortStep M f b t) n M) f n = ent M f n := by
      rw [h1 f n hf (by omega), if_neg (by omega)]
    refine ⟨by rw [len_shortStep']; exact l1, fun i j hi hj => ?_⟩
    rw [shortStep_ent l1 hf (by omega) (by rw [e1, e2]; exact hw n (by omega)) hj]
    have e4 : upd (ent (itS (fun t M => shortStep M f b t) n M)) b f n = upd (ent M) b f n := by unfold upd; rw [e1, e2, e3]
    by_cases e : i = f ∧ j = n
    · rw [if_pos e, if_pos (by omega), e4, e.2]
    · rw [if_neg e, h1 i j hi hj]
      by_cases e' : i = f ∧ j < n
      · rw [if_pos e', if_pos (by omega)]
      · rw [if_neg e', if_neg (by omega)]
theorem round_ent {M : List Int} (hl : M.length = 64) {b : Nat} {B : Int} (hb : b < 8) (h0 : ent M b b = 0) (hB : Bd (ent M) B) (h2 : 2 * B < F) :
    ∀ n, n ≤ 8 → (itS (fun f M => rowS b f M) n M).length = 64 ∧ ∀ i j, i < 8 → j < 8 → ent (itS (fun f M => rowS b f M) n M) i j = if i < n then upd (ent M) b i j else ent M i j
  | 0, _ => ⟨hl, fun i j _ _ => by rw [if_neg (by omega)]; rfl⟩
  | n + 1, hn => by
    obtain ⟨l1, h1⟩ := round_ent hl hb h0 hB h2 n (by omega)
    rw [itS]
    have eb : ∀ j, j < 8 → ent (itS (fun f M => rowS b f M) n M) b j = ent M b j := fun j hj => by
      rw [h1 b j hb hj]; split
      · exact upd_row _ _ _ h0
      · rfl
    have ef : ∀ j, j < 8 → ent (itS (fun f M => rowS b f M) n M) n j = ent M n j := fun j hj => by
      rw [h1 n j (by omega) hj, if_neg (by omega)]
    obtain ⟨l2, h3⟩ := row_ent l1 (f := n) (b := b) (by omega) hb (by rw [eb b hb]; exact h0) (fun t ht n1 n2 => by
      rw [ef b hb] at n1 ⊢; rw [eb t ht] at n2 ⊢
      have p := hB n b (by omega) hb n1; have q := hB b t hb ht n2
      have hF : F = 1073741824 := rfl
      unfold wrap64; omega) 8 (Nat.le_refl _)
    refine ⟨l2, fun i j hi hj => ?_⟩
    show ent (itS (fun t M => shortStep M n b t) 8 _) i j = _
    rw [h3 i j hi hj]
    by_cases e : i = n
    · subst e
      rw [if_pos ⟨rfl, hj⟩, if_pos (by omega)]
      unfold upd; rw [ef b hb, eb j hj, ef j hj]
    · rw [if_neg (by omega), h1 i j hi hj]
      by_cases e' : i < n
      · rw [if_pos e', if_pos (by omega)]
      · rw [if_neg e', if_neg (by omega)]

theorem contra_iff (M : List Int) : contra M = true ↔ ∃ i, i < 8 ∧ ent M i i < 0 := by
  unfold contra ent
  rw [List.any_eq_true]
  simp only [List.mem_range, decide_eq_true_eq]

/-- After some rounds. -/
theorem shortS_spec {M : List Int} (hl : M.length = 64) {B : Int} (hB0 : 0 ≤ B) (hB : Bd (ent M) B) (h2 : 256 * B < F) (h0 : ∀ i, i < 8 → ent M i i = 0) :
    ∀ k, k ≤ 8 → (shortS k M).2.length = 64 ∧
      ((shortS k M).1 = true → (∀ i, i < 8 → ent (shortS k M).2 i i = 0) ∧ Bd (ent (shortS k M).2) (2 ^ k * B) ∧ (∀ l, l < k → Cl (ent (shortS k M).2) l) ∧ (∀ i j, i < 8 → j < 8 → ent M i j ≠ F → ent (shortS k M).2 i j ≠ F) ∧ ∀ x, Sol (ent (shortS k M).2) x ↔ Sol (ent M) x) ∧
      ((shortS k M).1 = false → ¬∃ x, Sol (ent M) x)
  | 0, _ => ⟨hl, fun _ => ⟨h0, by simpa [shortS] using hB, fun l h => by omega, fun _ _ _ _ h => h, fun x => Iff.rfl⟩, fun h => by cases h⟩
  | k + 1, hk => by
    obtain ⟨l1, ht, hf⟩ := shortS_spec hl hB0 hB h2 h0 k (by omega)
    rw [shortS]
    cases hb : (shortS k M).1
    · rw [if_neg (by simp)]
      exact ⟨l1, ⟨(fun h => by rw [hb] at h; cases h), fun _ => hf hb⟩⟩
    · rw [if_pos rfl]
      obtain ⟨z, bd, cl, fin, sol⟩ := ht hb
      have hp : (2 : Int) ^ k ≤ 128 := by
        have : ∀ k : Fin 8, (2 : Int) ^ k.val ≤ 128 := by decide
        exact this ⟨k, by omega⟩
      have hp0 : (0 : Int) ≤ 2 ^ k := by
        have : ∀ k : Fin 8, (0 : Int) ≤ 2 ^ k.val := by decide
        exact this ⟨k, by omega⟩
      have hm : (2 : Int) ^ k * B ≤ 128 * B := Int.mul_le_mul_of_nonneg_right hp hB0
      have hm0 : (0 : Int) ≤ 2 ^ k * B := Int.mul_nonneg hp0 hB0
      have h2' : 2 * (2 ^ k * B) < F := by omega
      obtain ⟨l2, hr⟩ := round_ent l1 (b := k) (by omega) (z k (by omega)) bd h2' 8 (Nat.le_refl _)
      have hr' : ∀ i j, i < 8 → j < 8 → upd (ent (shortS k M).2) k i j = ent (roundS k (shortS k M).2) i j := fun i j hi hj => by
        have := hr i j hi hj
        rw [if_pos hi] at this; exact this.symm
      have e2 : (2 : Int) ^ (k + 1) * B = 2 * (2 ^ k * B) := by rw [Int.pow_succ, Int.mul_comm (2 ^ k) 2, Int.mul_assoc]
      have hsol : ∀ x, Sol (ent (roundS k (shortS k M).2)) x ↔ Sol (ent M) x := fun x => ((Sol.congr hr' x).symm.trans (upd_sol (by omega) bd h2' x)).trans (sol x)
      have hfin : ∀ i j, i < 8 → j < 8 → ent M i j ≠ F → ent (roundS k (shortS k M).2) i j ≠ F := fun i j hi hj h => by
        rw [← hr' i j hi hj]; exact (upd_fin (by omega) bd h2' hi hj).2 (.inl (fin i j hi hj h))
      have l2' : (roundS k (shortS k M).2).length = 64 := l2
      clear l2 hr
      dsimp only
      generalize roundS k (shortS k M).2 = R at *
      refine ⟨l2', ⟨fun h => ⟨fun i hi => ?_, ?_, fun l hlk => ?_, hfin, hsol⟩, fun h => ?_⟩⟩
      · have hc : ¬ ent R i i < 0 := fun hn => by
          have := (contra_iff R).2 ⟨i, hi, hn⟩
          rw [this] at h; cases h
        have hle := upd_le (ent (shortS k M).2) k i i
        rw [hr' i i hi hi, z i hi] at hle
        omega
      · rw [e2]; exact Bd.congr hr' (upd_bd (by omega) bd hm0)
      · refine Cl.congr (by omega) hr' ?_
        by_cases e : l = k
        · subst e; exact upd_cl_new (by omega) bd h2' (z l (by omega))
        · exact upd_cl_old (by omega) bd h2' (z k (by omega)) (cl l (by omega))
      · rintro ⟨x, hx⟩
        have hc : contra R = true := by simpa using h
        obtain ⟨i, hi, hn⟩ := (contra_iff _).1 hc
        have := (hsol x).2 hx i i hi hi (by have hF : F = 1073741824 := rfl; omega)
        omega
theorem short_yes {M : List Int} (hl : M.length = 64) {B : Int} (hB0 : 0 ≤ B) (hB : Bd (ent M) B) (h2 : 256 * B < F) (h0 : ∀ i, i < 8 → ent M i i = 0) (h : (shortS 8 M).1 = true) :
    Short (ent (shortS 8 M).2) (256 * B) ∧ (∀ i j, i < 8 → j < 8 → ent M i j ≠ F → ent (shortS 8 M).2 i j ≠ F) ∧ ∀ x, Sol (ent (shortS 8 M).2) x ↔ Sol (ent M) x := by
  obtain ⟨_, ht, _⟩ := shortS_spec hl hB0 hB h2 h0 8 (Nat.le_refl _)
  obtain ⟨z, bd, cl, fin, sol⟩ := ht h
  exact ⟨⟨z, bd, cl⟩, fin, sol⟩
theorem short_no {M : List Int} (hl : M.length = 64) {B : Int} (hB0 : 0 ≤ B) (hB : Bd (ent M) B) (h2 : 256 * B < F) (h0 : ∀ i, i < 8 → ent M i i = 0) (h : (shortS 8 M).1 = false) : ¬∃ x, Sol (ent M) x :=
  (shortS_spec hl hB0 hB h2 h0 8 (Nat.le_refl _)).2.2 h

/-! What the settings of a set tell, as bounds. -/

def dfl : Tell := (false, 0, 0, 0)
/-- Numbers (the zero, the sum, and the places from 2 on) are as a setting tells. -/
def Keeps (t : Tell) (x : Nat → Int) : Prop :=
  if t.1 then t.2.2.1 ≤ x 1 - x (2 + t.2.1.toNat) ∧ x 1 - x (2 + t.2.1.toNat) ≤ t.2.2.2 else t.2.2.1 ≤ x (2 + t.2.1.toNat) - x 0 ∧ x (2 + t.2.1.toNat) - x 0 ≤ t.2.2.2
/-- They are as the sum, and the first settings, so far as they are in a set, tell. -/
def Tells (sLo sHi : Int) (ts : List Tell) (set : Int) (n : Nat) (x : Nat → Int) : Prop :=
  (sLo ≤ x 1 - x 0 ∧ x 1 - x 0 ≤ sHi) ∧ ∀ k, k < n → setI set k = true → Keeps (ts.getD k dfl) x
/-- A setting's numbers are as those of a valid measure. -/
def Fair (B : Int) (t : Tell) : Prop := (0 ≤ t.2.1 ∧ t.2.1 < 6) ∧ (-B ≤ t.2.2.1 ∧ t.2.2.1 ≤ B) ∧ -B ≤ t.2.2.2 ∧ t.2.2.2 ≤ B

theorem ent_openS : ∀ i j, i < 8 → j < 8 → ent openS i j = if i = j then 0 else F := fun i j hi hj => by
  have : ∀ i j : Fin 8, ent openS i.val j.val = if i.val = j.val then 0 else F := by decide +kernel
  exact this ⟨i, hi⟩ ⟨j, hj⟩
theorem ent_narrow1 {M : List Int} (hl : M.length = 64) {i j : Nat} (hi : i < 8) (hj : j < 8) (h : Int) {p q : Nat} (hq : q < 8) :
    ent (narrow1 M (i * 8 + j) h) p q = if p = i ∧ q = j then mn (ent M i j) h else ent M p q := by
  unfold ent narrow1
  rw [gx_set _ _ _ _ (by omega)]
  by_cases e : p = i ∧ q = j
  · rw [if_pos e, if_pos (by omega)]
  · rw [if_neg e, if_neg (by omega)]
theorem narrow1_sol {M : List Int} (hl : M.length = 64) {i j : Nat} (hi : i < 8) (hj : j < 8) {h : Int} (hF : h < F) (x : Nat → Int) :
    Sol (ent (narrow1 M (i * 8 + j) h)) x ↔ Sol (ent M) x ∧ x j - x i ≤ h := by
  constructor
  · intro hs
    have h1 := hs i j hi hj
    rw [ent_narrow1 hl hi hj h hj, if_pos ⟨rfl, rfl⟩] at h1
    have hm : mn (ent M i j) h ≠ F := by unfold mn; split <;> omega
    have h2 := h1 hm
    have hle : mn (ent M i j) h ≤ ent M i j ∧ mn (ent M i j) h ≤ h := by unfold mn; split <;> omega
    refine ⟨fun p q hp hq hne => ?_, by omega⟩
    by_cases e : p = i ∧ q = j
    · rw [e.1, e.2] at hne ⊢; omega
    · have := hs p q hp hq
      rw [ent_narrow1 hl hi hj h hq, if_neg e] at this
      exact this hne
  · rintro ⟨hs, hx⟩ p q hp hq hne
    rw [ent_narrow1 hl hi hj h hq] at hne ⊢
    split
    · rename_i e
      rw [if_pos e] at hne
      rw [e.1, e.2]
      unfold mn at hne ⊢
      split
      · exact hx
      · rename_i hn
        rw [if_neg hn] at hne
        exact hs i j hi hj hne
    · rename_i e
      rw [if_neg e] at hne
      exact hs p q hp hq hne
/-- What stays while bounds are narrowed. -/
structure Ready (M : List Int) (B : Int) : Prop where
  len : M.length = 64
  bd : Bd (ent M) B
  top : ∀ i j, i < 8 → j < 8 → ent M i j ≤ F
  zero : ∀ i, i < 8 → ent M i i = 0
theorem Ready.narrow1 {M : List Int} {B : Int} (r : Ready M B) {i j : Nat} (hi : i < 8) (hj : j < 8) (hne : i ≠ j) {h : Int} (h1 : -B ≤ h ∧ h ≤ B) : Ready (narrow1 M (i * 8 + j) h) B := by
  refine ⟨by rw [Go.Proofs.Ytmfbkgdlfackcaa.narrow1, List.length_set]; exact r.len, fun p q hp hq hn => ?_, fun p q hp hq => ?_, fun p hp => ?_⟩
  · rw [ent_narrow1 r.len hi hj h hq] at hn ⊢
    split
    · rename_i e
      rw [if_pos e] at hn
      unfold mn at hn ⊢
      split
      · exact h1
      · rename_i hh; rw [if_neg hh] at hn; exact r.bd i j hi hj hn
    · rename_i e
      rw [if_neg e] at hn
      exact r.bd p q hp hq hn
  · rw [ent_narrow1 r.len hi hj h hq]
    have := r.top i j hi hj
    have := r.top p q hp hq
    unfold mn
    split
    · split <;> omega
    · omega
  · rw [ent_narrow1 r.len hi hj h hp, if_neg (by omega)]; exact r.zero p hp
theorem narrowM_ok {M : List Int} {B : Int} (r : Ready M B) (hB : 0 ≤ B ∧ B < F) {i j : Nat} (hi : i < 8) (hj : j < 8) (hne : i ≠ j) {lo hh : Int} (h1 : -B ≤ lo ∧ lo ≤ B) (h2 : -B ≤ hh ∧ hh ≤ B) :
    Ready (narrowM M i j lo hh) B ∧ (∀ x, Sol (ent (narrowM M i j lo hh)) x ↔ Sol (ent M) x ∧ lo ≤ x j - x i ∧ x j - x i ≤ hh) ∧ ent (narrowM M i j lo hh) i j ≠ F ∧ ent (narrowM M i j lo hh) j i ≠ F ∧
      ∀ p q, p < 8 → q < 8 → ent M p q ≠ F → ent (narrowM M i j lo hh) p q ≠ F := by
  have hF : F = 1073741824 := rfl
  have hw : wrap64 (-lo) = -lo := by unfold wrap64; omega
  have r1 := r.narrow1 hi hj hne h2
  have r2 := r1.narrow1 (i := j) (j := i) (h := -lo) hj hi (Ne.symm hne) ⟨by omega, by omega⟩
  have fin1 : ∀ {M : List Int}, Ready M B → ∀ {i j : Nat}, i < 8 → j < 8 → ∀ {h : Int}, h ≤ B → ∀ p q, p < 8 → q < 8 → (ent M p q ≠ F ∨ (p = i ∧ q = j)) → ent (Go.Proofs.Ytmfbkgdlfackcaa.narrow1 M (i * 8 + j) h) p q ≠ F := fun {M} r {i j} hi hj {h} hh p q hp hq ho => by
    rw [ent_narrow1 r.len hi hj h hq]
    split
    · have := r.top i j hi hj; unfold mn; split <;> omega
    · rename_i e; exact ho.resolve_right e
  unfold narrowM
  rw [hw]
  refine ⟨r2, fun x => ?_, ?_, ?_, fun p q hp hq hn => ?_⟩
  · rw [narrow1_sol r1.len hj hi (by omega), narrow1_sol r.len hi hj (by omega)]
    constructor
    · rintro ⟨⟨a, b⟩, c⟩; exact ⟨a, by omega, b⟩
    · rintro ⟨a, b, c⟩; exact ⟨⟨a, c⟩, by omega⟩
  · exact fin1 r1 hj hi (by omega) i j hi hj (.inl (fin1 r hi hj h2.2 i j hi hj (.inr ⟨rfl, rfl⟩)))
  · exact fin1 r1 hj hi (by omega) j i hj hi (.inr ⟨rfl, rfl⟩)
  · exact fin1 r1 hj hi (by omega) p q hp hq (.inl (fin1 r hi hj h2.2 p q hp hq (.inl hn)))
theorem ready_open (B : Int) (hB : 0 ≤ B) : Ready openS B := by
  refine ⟨len_openS, fun i j hi hj hn => ?_, fun i j hi hj => ?_, fun i hi => by rw [ent_openS i i hi hi, if_pos rfl]⟩
  · rw [ent_openS i j hi hj] at hn ⊢
    split
    · omega
    · rename_i e; rw [if_neg e] at hn; exact absurd rfl hn
  · rw [ent_openS i j hi hj]; split <;> decide
theorem sol_open (x : Nat → Int) : Sol (ent openS) x := fun i j hi hj hn => by
  rw [ent_openS i j hi hj] at hn ⊢
  by_cases e : i = j
  · subst e; rw [if_pos rfl]; omega
  · rw [if_neg e] at hn; exact absurd rfl hn

/-- The bounds that the first settings tell. -/
theorem boundsTo_ok {sLo sHi : Int} {ts : List Tell} {B : Int} (hB : 0 ≤ B ∧ B < F) (hs : (-B ≤ sLo ∧ sLo ≤ B) ∧ -B ≤ sHi ∧ sHi ≤ B) (ht : ∀ t ∈ ts, Fair B t) (set : Int) :
    ∀ n, n ≤ ts.length → Ready (boundsTo sLo sHi ts set n) B ∧ (∀ x, Sol (ent (boundsTo sLo sHi ts set n)) x ↔ Tells sLo sHi ts set n x) ∧ ent (boundsTo sLo sHi ts set n) 0 1 ≠ F ∧ ent (boundsTo sLo sHi ts set n) 1 0 ≠ F ∧
      ∀ k, k < n → setI set k = true → if (ts.getD k dfl).1 then ent (boundsTo sLo sHi ts set n) (2 + (ts.getD k dfl).2.1.toNat) 1 ≠ F ∧ ent (boundsTo sLo sHi ts set n) 1 (2 + (ts.getD k dfl).2.1.toNat) ≠ F else
        ent (boundsTo sLo sHi ts set n) 0 (2 + (ts.getD k dfl).2.1.toNat) ≠ F ∧ ent (boundsTo sLo sHi ts set n) (2 + (ts.getD k dfl).2.1.toNat) 0 ≠ F
  | 0, _ => by
    obtain ⟨a, b, c, d, _⟩ := narrowM_ok (i := 0) (j := 1) (ready_open B hB.1) hB (by omega) (by omega) (by omega) hs.1 hs.2
    refine ⟨a, fun x => ?_, c, d, fun k hk => by omega⟩
    rw [boundsTo, b x]
    exact ⟨fun h => ⟨h.2, fun k hk => by omega⟩, fun h => ⟨sol_open x, h.1⟩⟩
  | n + 1, hn => by
    obtain ⟨r, sol, f0, f1, fk⟩ := boundsTo_ok hB hs ht set n (by omega)
    have hmem : ts.getD n dfl ∈ ts := by simp [List.getD, show n < ts.length by omega]
    obtain ⟨⟨him0, him1⟩, hlo, hhi⟩ := ht _ hmem
    have step : ∀ x, Tells sLo sHi ts set (n + 1) x ↔ Tells sLo sHi ts set n x ∧ (setI set n = true → Keeps (ts.getD n dfl) x) := fun x => by
      constructor
      · rintro ⟨a, b⟩; exact ⟨⟨a, fun k hk => b k (by omega)⟩, b n (by omega)⟩
      · rintro ⟨⟨a, b⟩, c⟩
        refine ⟨a, fun k hk => ?_⟩
        by_cases e : k = n
        · subst e; exact c
        · exact b k (by omega)
    rw [boundsTo]
    cases hset : setI set n
    · rw [if_neg (by simp)]
      refine ⟨r, fun x => ?_, f0, f1, fun k hk hks => ?_⟩
      · rw [sol x, step x]; exact ⟨fun h => ⟨h, fun e => by rw [hset] at e; cases e⟩, fun h => h.1⟩
      · by_cases e : k = n
        · subst e; rw [hset] at hks; cases hks
        · exact fk k (by omega) hks
    · rw [if_pos rfl]
      rw [show ((false, 0, 0, 0) : Tell) = dfl from rfl]
      generalize hR : narrowT (boundsTo sLo sHi ts set n) (ts.getD n dfl) = R at *
      have key : Ready R B ∧ (∀ x, Sol (ent R) x ↔ Sol (ent (boundsTo sLo sHi ts set n)) x ∧ Keeps (ts.getD n dfl) x) ∧ (if (ts.getD n dfl).1 then ent R (2 + (ts.getD n dfl).2.1.toNat) 1 ≠ F ∧ ent R 1 (2 + (ts.getD n dfl).2.1.toNat) ≠ F else
          ent R 0 (2 + (ts.getD n dfl).2.1.toNat) ≠ F ∧ ent R (2 + (ts.getD n dfl).2.1.toNat) 0 ≠ F) ∧ ∀ p q, p < 8 → q < 8 → ent (boundsTo sLo sHi ts set n) p q ≠ F → ent R p q ≠ F := by
        subst hR
        unfold narrowT Keeps
        cases (ts.getD n dfl).1
        · simp only [Bool.false_eq_true, if_false]
          obtain ⟨a, b, c, d, e⟩ := narrowM_ok (i := 0) (j := 2 + (ts.getD n dfl).2.1.toNat) r hB (by omega) (by omega) (by omega) hlo hhi
          exact ⟨a, b, ⟨c, d⟩, e⟩
        · simp only [if_true]
          obtain ⟨a, b, c, d, e⟩ := narrowM_ok (i := 2 + (ts.getD n dfl).2.1.toNat) (j := 1) r hB (by omega) (by omega) (by omega) hlo hhi
          exact ⟨a, b, ⟨c, d⟩, e⟩
      obtain ⟨kr, ks, kf, kp⟩ := key
      refine ⟨kr, fun x => ?_, kp 0 1 (by omega) (by omega) f0, kp 1 0 (by omega) (by omega) f1, fun k hk hks => ?_⟩
      · show Sol (ent R) x ↔ _
        rw [ks x, sol x, step x]; exact ⟨fun h => ⟨h.1, fun _ => h.2⟩, fun h => ⟨h.1, h.2 hset⟩⟩
      · by_cases e : k = n
        · subst e; exact kf
        · have hk' := fk k (by omega) hks
          have hm2 : ts.getD k dfl ∈ ts := by simp [List.getD, show k < ts.length by omega]
          obtain ⟨⟨i0, i1⟩, _⟩ := ht _ hm2
          show if (ts.getD k dfl).1 then ent R _ 1 ≠ F ∧ ent R 1 _ ≠ F else ent R 0 _ ≠ F ∧ ent R _ 0 ≠ F
          split
          · rename_i h; rw [if_pos h] at hk'; exact ⟨kp _ _ (by omega) (by omega) hk'.1, kp _ _ (by omega) (by omega) hk'.2⟩
          · rename_i h; rw [if_neg h] at hk'; exact ⟨kp _ _ (by omega) (by omega) hk'.1, kp _ _ (by omega) (by omega) hk'.2⟩

/-- All that is within lies between both ends, and both ends are reached. -/
def Ext (S : (Nat → Int) → Prop) (i j : Nat) (lo hi : Int) : Prop :=
  (∀ x, S x → lo ≤ x j - x i ∧ x j - x i ≤ hi) ∧ (∃ x, S x ∧ x j - x i = lo) ∧ ∃ x, S x ∧ x j - x i = hi
theorem Ext.unique {S : (Nat → Int) → Prop} {i j : Nat} {lo hi lo' hi' : Int} (h : Ext S i j lo hi) (h' : Ext S i j lo' hi') : lo = lo' ∧ hi = hi' := by
  obtain ⟨a, ⟨x, hx, ex⟩, y, hy, ey⟩ := h
  obtain ⟨a', ⟨x', hx', ex'⟩, y', hy', ey'⟩ := h'
  have := a x' hx'; have := a y' hy'; have := a' x hx; have := a' y hy
  omega
/-- Whether a set leaves a truth, and what is known then. -/
theorem bounds_no {sLo sHi : Int} {ts : List Tell} {B : Int} (hB : 0 ≤ B ∧ 256 * B < F) (hs : (-B ≤ sLo ∧ sLo ≤ B) ∧ -B ≤ sHi ∧ sHi ≤ B) (ht : ∀ t ∈ ts, Fair B t) (set : Int) (h : (boundsS sLo sHi ts set).1 = false) :
    ¬∃ x, Tells sLo sHi ts set ts.length x := by
  obtain ⟨r, sol, _⟩ := boundsTo_ok ⟨hB.1, by have := hB.2; omega⟩ hs ht set ts.length (Nat.le_refl _)
  rintro ⟨x, hx⟩
  exact short_no r.len hB.1 r.bd hB.2 r.zero h ⟨x, (sol x).2 hx⟩
theorem bounds_yes {sLo sHi : Int} {ts : List Tell} {B : Int} (hB : 0 ≤ B ∧ 256 * B < F) (hs : (-B ≤ sLo ∧ sLo ≤ B) ∧ -B ≤ sHi ∧ sHi ≤ B) (ht : ∀ t ∈ ts, Fair B t) (set : Int) (h : (boundsS sLo sHi ts set).1 = true) :
    Short (ent (boundsS sLo sHi ts set).2) (256 * B) ∧ (∀ x, Sol (ent (boundsS sLo sHi ts set).2) x ↔ Tells sLo sHi ts set ts.length x) ∧
      (∀ i j, i < 8 → j < 8 → ent (boundsS sLo sHi ts set).2 i j ≠ F → ent (boundsS sLo sHi ts set).2 j i ≠ F → Ext (Tells sLo sHi ts set ts.length) i j (wrap64 (-(ent (boundsS sLo sHi ts set).2 j i))) (ent (boundsS sLo sHi ts set).2 i j)) ∧
      (ent (boundsS sLo sHi ts set).2 0 1 ≠ F ∧ ent (boundsS sLo sHi ts set).2 1 0 ≠ F) ∧
      ∀ k, k < ts.length → setI set k = true → ∀ a, a < 2 → ent (boundsS sLo sHi ts set).2 a (2 + (ts.getD k dfl).2.1.toNat) ≠ F ∧ ent (boundsS sLo sHi ts set).2 (2 + (ts.getD k dfl).2.1.toNat) a ≠ F := by
  obtain ⟨r, sol, f0, f1, fk⟩ := boundsTo_ok ⟨hB.1, by have := hB.2; omega⟩ hs ht set ts.length (Nat.le_refl _)
  obtain ⟨sh, fin, sl⟩ := short_yes r.len hB.1 r.bd hB.2 r.zero h
  have e : ∀ x, Sol (ent (boundsS sLo sHi ts set).2) x ↔ Tells sLo sHi ts set ts.length x := fun x => (sl x).trans (sol x)
  have g0 := fin 0 1 (by omega) (by omega) f0
  have g1 := fin 1 0 (by omega) (by omega) f1
  refine ⟨sh, e, fun i j hi hj n1 n2 => ?_, ⟨g0, g1⟩, fun k hk hks a ha => ?_⟩
  · change ent (shortS 8 (boundsTo sLo sHi ts set ts.length)).2 i j ≠ F at n1
    change ent (shortS 8 (boundsTo sLo sHi ts set ts.length)).2 j i ≠ F at n2
    obtain ⟨x, hx, xi, xj⟩ := sh.reach hi hj n1
    obtain ⟨y, hy, yj, yi⟩ := sh.reach hj hi n2
    have b2 := sh.bd j i hj hi n2
    have hw : wrap64 (-(ent (boundsS sLo sHi ts set).2 j i)) = -(ent (boundsS sLo sHi ts set).2 j i) := by
      change wrap64 (-(ent (shortS 8 (boundsTo sLo sHi ts set ts.length)).2 j i)) = -(ent (shortS 8 (boundsTo sLo sHi ts set ts.length)).2 j i)
      have hF : F = 1073741824 := rfl
      have := hB.2
      unfold wrap64; omega
    rw [hw]
    refine ⟨fun z hz => ?_, ⟨y, (e y).1 hy, ?_⟩, ⟨x, (e x).1 hx, ?_⟩⟩
    · have s1 := (e z).2 hz i j hi hj n1
      have s2 := (e z).2 hz j i hj hi n2
      omega
    · change y j - y i = -(ent (shortS 8 (boundsTo sLo sHi ts set ts.length)).2 j i)
      omega
    · change x j - x i = ent (shortS 8 (boundsTo sLo sHi ts set ts.length)).2 i j
      omega
  · have hm2 : ts.getD k dfl ∈ ts := by simp [List.getD, hk]
    obtain ⟨⟨i0, i1⟩, _⟩ := ht _ hm2
    have hk' := fk k hk hks
    have z := sh.zero
    have cl := sh.cl
    change ent (shortS 8 (boundsTo sLo sHi ts set ts.length)).2 a (2 + (ts.getD k dfl).2.1.toNat) ≠ F ∧ ent (shortS 8 (boundsTo sLo sHi ts set ts.length)).2 (2 + (ts.getD k dfl).2.1.toNat) a ≠ F
    have hm : 2 + (ts.getD k dfl).2.1.toNat < 8 := by omega
    clear i0 i1
    generalize (ts.getD k dfl).2.1.toNat = m at *
    generalize shortS 8 (boundsTo sLo sHi ts set ts.length) = R at *
    generalize boundsTo sLo sHi ts set ts.length = M at *
    by_cases hr : (ts.getD k dfl).1 = true
    · rw [if_pos hr] at hk'
      have p1 := fin _ _ hm (by omega) hk'.1
      have p2 := fin _ _ (by omega) hm hk'.2
      have ha' : a = 0 ∨ a = 1 := by omega
      rcases ha' with rfl | rfl
      · exact ⟨(cl 1 (by omega) 0 (2 + m) (by omega) hm g0 p2).1, (cl 1 (by omega) (2 + m) 0 hm (by omega) p1 g1).1⟩
      · exact ⟨p2, p1⟩
    · rw [if_neg hr] at hk'
      have p1 := fin _ _ (by omega) hm hk'.1
      have p2 := fin _ _ hm (by omega) hk'.2
      have ha' : a = 0 ∨ a = 1 := by omega
      rcases ha' with rfl | rfl
      · exact ⟨p1, p2⟩
      · exact ⟨(cl 0 (by omega) 1 (2 + m) (by omega) hm g1 p1).1, (cl 0 (by omega) (2 + m) 1 hm (by omega) p2 g0).1⟩
end Go.Proofs.Ytmfbkgdlfackcaa
