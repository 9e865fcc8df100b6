/- Eye: a watch whose measurers, images and looks are numbered otherwise: what is true of it. -/
import Derived.Test.YtcfjakifeihbpaaEcs
namespace Go.Proofs.Ytcfjakifeihbpaa
namespace Ey
open Go.RowKit Nb

/-- The looks told from the last one on, with other numbers. -/
def turnL (ls : List LkV) (E I a b : Int) : Nat → List LkV
  | 0 => []
  | k + 1 => turnL ls E I a b k ++ [(((ls.getD (ls.length - 1 - k) (0, 0, 0)).1 + a) % E, ((ls.getD (ls.length - 1 - k) (0, 0, 0)).2.1 + b) % I, (ls.getD (ls.length - 1 - k) (0, 0, 0)).2.2)]
theorem turnL_len (ls : List LkV) (E I a b : Int) : ∀ k, (turnL ls E I a b k).length = k
  | 0 => rfl
  | k + 1 => by rw [turnL, List.length_append, turnL_len ls E I a b k]; rfl
theorem turnL_get (ls : List LkV) (E I a b : Int) : ∀ k j, j < k → (turnL ls E I a b k).getD j (0, 0, 0) = (((ls.getD (ls.length - 1 - j) (0, 0, 0)).1 + a) % E, ((ls.getD (ls.length - 1 - j) (0, 0, 0)).2.1 + b) % I, (ls.getD (ls.length - 1 - j) (0, 0, 0)).2.2)
  | 0, j, h => by omega
  | k + 1, j, h => by
    have hl := turnL_len ls E I a b k
    rw [turnL]
    by_cases hj : j < k
    · rw [← turnL_get ls E I a b k j hj]
      simp [List.getD, List.getElem?_append_left (show j < (turnL ls E I a b k).length by omega)]
    · obtain rfl : j = k := by omega
      simp [List.getD, hl]
theorem turnL_mem {ls : List LkV} {E I a b : Int} {k : Nat} {l : LkV} (hk : k ≤ ls.length) (h : l ∈ turnL ls E I a b k) : ∃ m ∈ ls, l = ((m.1 + a) % E, (m.2.1 + b) % I, m.2.2) := by
  obtain ⟨j, hj, e⟩ := List.getElem_of_mem h
  rw [turnL_len] at hj
  have h1 := turnL_get ls E I a b k j hj
  have h2 : (turnL ls E I a b k).getD j (0, 0, 0) = l := by rw [← e]; simp [List.getD, turnL_len, hj]
  rw [h2] at h1
  have hn : ls.length - 1 - j < ls.length := by omega
  have h3 : ls.getD (ls.length - 1 - j) (0, 0, 0) = ls[ls.length - 1 - j] := by simp [List.getD, hn]
  exact ⟨_, List.getElem_mem hn, by rw [h1, h3]⟩
/-- Numbers around, and back. -/
def sgm (E I a b k : Nat) : Nat := if k = 0 then 0 else if k < 5 then 1 + (k - 1 + a) % E else 5 + (k - 5 + b) % I
def tau (E I a b k : Nat) : Nat := if k = 0 then 0 else if k < 5 then 1 + (k - 1 + (E - a % E)) % E else 5 + (k - 5 + (I - b % I)) % I
theorem rot_back {E a e : Nat} (h1 : 1 ≤ E) (h6 : E ≤ 6) (he : e < E) : ((e + a) % E + (E - a % E)) % E = e := by
  have : E = 1 ∨ E = 2 ∨ E = 3 ∨ E = 4 ∨ E = 5 ∨ E = 6 := by omega
  rcases this with rfl | rfl | rfl | rfl | rfl | rfl <;> omega
theorem rot_forth {E a e : Nat} (h1 : 1 ≤ E) (h6 : E ≤ 6) (he : e < E) : ((e + (E - a % E)) % E + a) % E = e := by
  have : E = 1 ∨ E = 2 ∨ E = 3 ∨ E = 4 ∨ E = 5 ∨ E = 6 := by omega
  rcases this with rfl | rfl | rfl | rfl | rfl | rfl <;> omega
theorem sgm_eye {E I a b e : Nat} (h4 : e < 4) : sgm E I a b (1 + e) = 1 + (e + a) % E := by
  unfold sgm
  rw [if_neg (by omega), if_pos (by omega), show 1 + e - 1 = e by omega]
theorem sgm_im {E I a b i : Nat} : sgm E I a b (5 + i) = 5 + (i + b) % I := by
  unfold sgm
  rw [if_neg (by omega), if_neg (by omega), show 5 + i - 5 = i by omega]
theorem tau_eye {E I a b e : Nat} (h4 : e < 4) : tau E I a b (1 + e) = 1 + (e + (E - a % E)) % E := by
  unfold tau
  rw [if_neg (by omega), if_pos (by omega), show 1 + e - 1 = e by omega]
theorem tau_im {E I a b i : Nat} : tau E I a b (5 + i) = 5 + (i + (I - b % I)) % I := by
  unfold tau
  rw [if_neg (by omega), if_neg (by omega), show 5 + i - 5 = i by omega]
/-- Sets of looks, and of measurers, that are the same ones, numbered otherwise. -/
structure Rl (n E a : Nat) (S S' H H' : Int) : Prop where
  s : ∀ k, k < n → setI S' (n - 1 - k) = setI S k
  m : ∀ e, e < E → setI H' ((e + a) % E) = setI H e
/-- What is known of a watch and its numbers. -/
structure TW (h : Wd) (ls : List LkV) (E I : Nat) : Prop where
  e : 1 ≤ E ∧ E ≤ 4
  i : 1 ≤ I ∧ I ≤ 6
  ey : ∀ k, k < ls.length → 0 ≤ (ls.getD k (0, 0, 0)).1 ∧ (ls.getD k (0, 0, 0)).1 < E
  im : ∀ k, k < ls.length → 0 ≤ (ls.getD k (0, 0, 0)).2.1 ∧ (ls.getD k (0, 0, 0)).2.1 < I
theorem toNat_rot {v : Int} {a E : Nat} (h : 0 ≤ v) : ((v + (a : Int)) % (E : Int)).toNat = (v.toNat + a) % E := by
  obtain ⟨n, rfl⟩ : ∃ n : Nat, v = n := ⟨v.toNat, by omega⟩
  rw [← Int.natCast_add, ← Int.natCast_emod, Int.toNat_natCast, Int.toNat_natCast]
section
variable {h : Wd} {xs : List (Int × Int)} {ls : List LkV} {E I a b : Nat} {S S' H H' : Int}
theorem tr_back (t : TW h ls E I) (r : Rl ls.length E a S S' H H') (sa : Option Addr) (n cap : Nat) {y : Nat → Int}
    (hy : TrS (partH h sa n cap) ((turnL ls E I a b ls.length).map (travOf h xs)) (turnL ls E I a b ls.length) E S' H' y) : TrS h (ls.map (travOf h xs)) ls E S H (fun k => y (sgm E I a b k)) := by
  refine ⟨fun e he => ?_, fun k hk hs => ?_⟩
  · have h1 := hy.hab ((e + a) % E) (Nat.mod_lt _ (by omega))
    have h2 : habS (partH h sa n cap) H' ((e + a) % E) = habS h H e := by
      unfold habS; rw [r.m e he]; rfl
    rw [h2] at h1
    show (habS h H e).1 ≤ y (sgm E I a b (1 + e)) - y (sgm E I a b 0) ∧ y (sgm E I a b (1 + e)) - y (sgm E I a b 0) ≤ (habS h H e).2
    rw [sgm_eye (by have := t.e; omega), show sgm E I a b 0 = 0 from rfl]
    exact h1
  · have hk' : ls.length - 1 - k < (turnL ls E I a b ls.length).length := by rw [turnL_len]; omega
    have hk2 : ls.length - 1 - k < ls.length := by omega
    have h1 := hy.look (ls.length - 1 - k) hk' (by rw [r.s k hk]; exact hs)
    rw [getD_map hk', turnL_get _ _ _ _ _ _ _ hk2, show ls.length - 1 - (ls.length - 1 - k) = k by omega] at h1
    rw [getD_map hk]
    dsimp only at h1 ⊢
    rw [toNat_rot (t.ey k hk).1, toNat_rot (t.im k hk).1] at h1
    rw [sgm_eye (by have := t.ey k hk; have := t.e; omega), sgm_im]
    exact h1
theorem tr_forth (t : TW h ls E I) (r : Rl ls.length E a S S' H H') (sa : Option Addr) (n cap : Nat) {x : Nat → Int}
    (hx : TrS h (ls.map (travOf h xs)) ls E S H x) : TrS (partH h sa n cap) ((turnL ls E I a b ls.length).map (travOf h xs)) (turnL ls E I a b ls.length) E S' H' (fun k => x (tau E I a b k)) := by
  refine ⟨fun e he => ?_, fun k hk hs => ?_⟩
  · have hlt : (e + (E - a % E)) % E < E := Nat.mod_lt _ (by omega)
    have h1 := hx.hab ((e + (E - a % E)) % E) hlt
    have h2 : habS (partH h sa n cap) H' e = habS h H ((e + (E - a % E)) % E) := by
      have := r.m _ hlt
      rw [rot_forth t.e.1 (by have := t.e; omega) he] at this
      unfold habS; rw [this]; rfl
    rw [← h2] at h1
    show (habS (partH h sa n cap) H' e).1 ≤ x (tau E I a b (1 + e)) - x (tau E I a b 0) ∧ x (tau E I a b (1 + e)) - x (tau E I a b 0) ≤ (habS (partH h sa n cap) H' e).2
    rw [tau_eye (by have := t.e; omega), show tau E I a b 0 = 0 from rfl]
    exact h1
  · have hk0 : k < ls.length := by rw [turnL_len] at hk; exact hk
    have hk2 : ls.length - 1 - k < ls.length := by omega
    have hs2 := r.s _ hk2
    rw [show ls.length - 1 - (ls.length - 1 - k) = k by omega] at hs2
    have h1 := hx.look (ls.length - 1 - k) hk2 (by rw [← hs2]; exact hs)
    rw [getD_map hk2] at h1
    rw [getD_map hk, turnL_get _ _ _ _ _ _ _ hk0]
    dsimp only
    have e1 := t.ey _ hk2
    have e2 := t.im _ hk2
    rw [toNat_rot e1.1, toNat_rot e2.1, tau_eye (by have := Nat.mod_lt ((ls.getD (ls.length - 1 - k) (0, 0, 0)).1.toNat + a) (show 0 < E by have := t.e; omega); have := t.e; omega), tau_im, rot_back t.e.1 (by have := t.e; omega) (by omega), rot_back t.i.1 (by have := t.i; omega) (by omega)]
    exact h1
theorem turn_valid (hv : validW h xs ls = true) (hE : h.eyes = (E : Int)) (hI : h.images = (I : Int)) (sa : Option Addr) (n cap : Nat) : validW (partH h sa n cap) xs (turnL ls E I a b ls.length) = true := by
  have V := validW_iff hv
  unfold validW at hv ⊢
  simp only [Bool.and_eq_true, decide_eq_true_eq] at hv ⊢
  obtain ⟨⟨x, y⟩, z⟩ := hv
  refine ⟨⟨x, by rw [turnL_len]; exact y⟩, List.all_eq_true.2 (fun l hl => ?_)⟩
  obtain ⟨m, hm, rfl⟩ := turnL_mem (Nat.le_refl _) hl
  have h1 := List.all_eq_true.1 z m hm
  unfold lookB at h1 ⊢
  rw [Bool.and_eq_true, Bool.and_eq_true, img_iff, img_iff] at h1 ⊢
  have := V.ey; have := V.im
  refine ⟨⟨⟨Int.emod_nonneg _ (by omega), ?_⟩, Int.emod_nonneg _ (by omega), ?_⟩, h1.2⟩
  · show _ < h.eyes
    rw [hE]; exact Int.emod_lt_of_pos _ (by omega)
  · show _ < h.images
    rw [hI]; exact Int.emod_lt_of_pos _ (by omega)
end
/-- Two watches of which the same is true tell the same. -/
theorem ov_same {h h' : Wd} {ts ts' : List (Int × Int)} {ls ls' : List LkV} {E E' : Nat} {S S' H H' : Int} {base base' j j' : Nat} (k : WOk h ts ls E) (k' : WOk h' ts' ls' E') (hb : isBase E base) (hb' : isBase E' base') (hin : inS ls E S j ↔ inS ls' E' S' j')
    (f : ∀ x, TrS h ts ls E S H x → ∃ y, TrS h' ts' ls' E' S' H' y ∧ y j' - y base' = x j - x base) (g : ∀ y, TrS h' ts' ls' E' S' H' y → ∃ x, TrS h ts ls E S H x ∧ x j - x base = y j' - y base') :
    (ovB h ts ls E S H base = none ∧ ovB h' ts' ls' E' S' H' base' = none) ∨ ∃ b b', ovB h ts ls E S H base = some b ∧ ovB h' ts' ls' E' S' H' base' = some b' ∧ b j = b' j' := by
  cases ho : ovB h ts ls E S H base with
  | none =>
    left
    refine ⟨rfl, ?_⟩
    cases ho' : ovB h' ts' ls' E' S' H' base' with
    | none => rfl
    | some b' =>
      obtain ⟨y, hy⟩ := (ov_some k' hb' ho').1
      obtain ⟨x, hx, _⟩ := g y hy
      obtain ⟨b, e⟩ := ov_yes k hb hx
      rw [e] at ho; cases ho
  | some b =>
    right
    obtain ⟨⟨x, hx⟩, h1, h2⟩ := ov_some k hb ho
    obtain ⟨y, hy, _⟩ := f x hx
    obtain ⟨b', e⟩ := ov_yes k' hb' hy
    obtain ⟨_, g1, g2⟩ := ov_some k' hb' e
    refine ⟨b, b', rfl, e, ?_⟩
    by_cases hi : inS ls E S j
    · obtain ⟨s, es, A⟩ := h1 j hi
      obtain ⟨s', es', A'⟩ := g1 j' (hin.1 hi)
      rw [es, es', A.unique A' f g]
    · rw [h2 j hi, g2 j' (fun hc => hi (hin.2 hc))]
theorem ask_same {h h' : Wd} {ts ts' : List (Int × Int)} {ls ls' : List LkV} {E E' : Nat} {S S' H H' : Int} {base base' j j' : Nat} (k : WOk h ts ls E) (k' : WOk h' ts' ls' E') (hb : isBase E base) (hb' : isBase E' base') (hin : inS ls E S j ↔ inS ls' E' S' j')
    (f : ∀ x, TrS h ts ls E S H x → ∃ y, TrS h' ts' ls' E' S' H' y ∧ y j' - y base' = x j - x base) (g : ∀ y, TrS h' ts' ls' E' S' H' y → ∃ x, TrS h ts ls E S H x ∧ x j - x base = y j' - y base') :
    askR (ovB h ts ls E S H base) j = askR (ovB h' ts' ls' E' S' H' base') j' := by
  rcases ov_same k k' hb hb' hin f g with ⟨e1, e2⟩ | ⟨b, b', e1, e2, e3⟩
  · rw [e1, e2]; rfl
  · rw [e1, e2]; unfold askR; dsimp only; rw [e3]
theorem can_same {h h' : Wd} {ts ts' : List (Int × Int)} {ls ls' : List LkV} {E E' : Nat} {S S' H H' : Int} (k : WOk h ts ls E) (k' : WOk h' ts' ls' E') (f : ∀ x, TrS h ts ls E S H x → ∃ y, TrS h' ts' ls' E' S' H' y) (g : ∀ y, TrS h' ts' ls' E' S' H' y → ∃ x, TrS h ts ls E S H x) :
    canW h ts ls E S H = canW h' ts' ls' E' S' H' := by
  rw [Bool.eq_iff_iff, can_iff k, can_iff k']
  exact ⟨fun ⟨x, hx⟩ => f x hx, fun ⟨y, hy⟩ => g y hy⟩
end Ey
end Go.Proofs.Ytcfjakifeihbpaa
