/- Eye: a watch that knows more, and what it tells: the facts of EyeMore. -/
import Derived.Test.YtcfjakifeihbpaaEtg
namespace Go.Proofs.Ytcfjakifeihbpaa
namespace Ey
open Go.RowKit Nb

/-- The second watch knows more than the first one. -/
structure Inc (h h' : Wd) (xs : List (Int × Int)) (ls ls' : List LkV) (E I : Nat) : Prop where
  v : validW h xs ls = true
  v' : validW h' xs ls' = true
  nl : ls.length = h.ln
  nl' : ls'.length = h'.ln
  e : h.eyes = (E : Int)
  e' : h'.eyes = (E : Int)
  i : h.images = (I : Int)
  i' : h'.images = (I : Int)
  n : ls.length ≤ ls'.length
  n8 : ls.length ≤ 7 ∧ ls'.length ≤ 8
  lk : ∀ k, k < ls.length → ls'.getD k (0, 0, 0) = ls.getD k (0, 0, 0)
  hab : h.hLo ≤ h'.hLo ∧ h'.hHi ≤ h.hHi
  tr : ∀ k, k < ls.length → (travOf h xs (ls.getD k (0, 0, 0))).1 ≤ (travOf h' xs (ls.getD k (0, 0, 0))).1 ∧ (travOf h' xs (ls.getD k (0, 0, 0))).2 ≤ (travOf h xs (ls.getD k (0, 0, 0))).2
section
variable {h h' : Wd} {xs : List (Int × Int)} {ls ls' : List LkV} {E I : Nat}
theorem Inc.e4 (t : Inc h h' xs ls ls' E I) : 1 ≤ E ∧ E ≤ 4 := by
  have := (validW_iff t.v).ey
  have := t.e
  omega
theorem inc_tr (t : Inc h h' xs ls ls' E I) {S S' : Int} (hS : ∀ k, k < ls.length → setI S k = true → setI S' k = true) {x : Nat → Int} (hx : TrS h' (ls'.map (travOf h' xs)) ls' E S' (allS E) x) :
    TrS h (ls.map (travOf h xs)) ls E S (allS E) x := by
  have hE := t.e4
  refine ⟨fun e he => ?_, fun k hk hs => ?_⟩
  · have := hx.hab e he
    have := t.hab
    unfold habS at *
    rw [setI_allS (by omega) he] at *
    simp only [if_true] at *
    omega
  · have hk' : k < ls'.length := Nat.lt_of_lt_of_le hk t.n
    have h1 := hx.look k hk' (hS k hk hs)
    rw [getD_map hk', t.lk k hk] at h1
    rw [getD_map hk]
    have h2 := t.tr k hk
    omega
theorem inc_span (t : Inc h h' xs ls ls' E I) {base j : Nat} {s s' : Int × Int} (a : EndsS h (ls.map (travOf h xs)) ls E (allS ls.length) (allS E) base j s) (b : EndsS h' (ls'.map (travOf h' xs)) ls' E (allS ls'.length) (allS E) base j s') : s.1 ≤ s'.1 ∧ s'.2 ≤ s.2 := by
  have hall : ∀ k, k < ls.length → setI (allS ls.length) k = true → setI (allS ls'.length) k = true := fun k hk _ => setI_allS (by have := t.n8; omega) (Nat.lt_of_lt_of_le hk t.n)
  obtain ⟨x, hx, ex⟩ := b.lo
  obtain ⟨y, hy, ey⟩ := b.hi
  have h1 := a.all x (inc_tr t hall hx)
  have h2 := a.all y (inc_tr t hall hy)
  omega
theorem low_bits {n d : Nat} (hn : n ≤ 7) (hd : d < 256) : d % 2 ^ n < 2 ^ n ∧ popc ((d % 2 ^ n : Nat) : Int) ≤ popc (d : Int) := by
  have h := (by decide +kernel : ∀ n : Fin 8, ∀ d : Fin 256, popc ((d.val % 2 ^ n.val : Nat) : Int) ≤ popc (d.val : Int))
  exact ⟨Nat.mod_lt _ (Nat.two_pow_pos n), h ⟨n, by omega⟩ ⟨d, hd⟩⟩
theorem not_low {n m d : Nat} (hn : n ≤ 7) (hm : n ≤ m) (hm8 : m ≤ 8) (hd : d < 2 ^ m) {k : Nat} (hk : k < n) (hs : setI (allS n - ((d % 2 ^ n : Nat) : Int)) k = true) : setI (allS m - (d : Int)) k = true := by
  have h1 := (by decide +kernel : ∀ m : Fin 9, ∀ d : Fin 256, ∀ k : Fin 8, d.val < 2 ^ m.val → k.val < m.val → setI (allS m.val - (d.val : Int)) k.val = !setI (d.val : Int) k.val)
  have h2 := (by decide +kernel : ∀ n : Fin 8, ∀ d : Fin 256, ∀ k : Fin 8, k.val < n.val → setI ((d.val % 2 ^ n.val : Nat) : Int) k.val = setI (d.val : Int) k.val)
  have h256 : 2 ^ m ≤ 256 := (by decide : ∀ m : Fin 9, 2 ^ m.val ≤ 256) ⟨m, by omega⟩
  have e1 := h1 ⟨m, by omega⟩ ⟨d, by omega⟩ ⟨k, by omega⟩ hd (by show k < m; omega)
  have e2 := h2 ⟨n, by omega⟩ ⟨d, by omega⟩ ⟨k, by omega⟩ hk
  rw [set_not hn (low_bits hn (by omega)).1 hk] at hs
  dsimp only at e1 e2
  rw [e1, ← e2]
  exact hs
theorem sure_eq {b : B} (hv : validW h xs ls = true) (hE : h.eyes = (E : Int)) (ho : ovB h (ls.map (travOf h xs)) ls E (allS ls.length) (allS E) 0 = some b) : replyI (sureA h xs ls) = .tuple #[.int .i64 (sureTo (sureP b) E), .int .i64 0] := by
  have hEe : eyesN h = E := by unfold eyesN; rw [hE]; rfl
  have hEn : h.eyes.toNat = E := hEe
  unfold sureA
  rw [hv]
  simp only [if_true]
  unfold sureR ovW
  rw [hEn, hEe, ho]
  rfl
end
structure MG (h h' : Wd) (xs : List (Int × Int)) (ls ls' : List LkV) (E I : Nat) : Prop where
  sr : ∃ a b : Int, replyI (sureA h xs ls) = .tuple #[.int .i64 a, .int .i64 0] ∧ replyI (sureA h' xs ls') = .tuple #[.int .i64 b, .int .i64 0] ∧ bits .andNot .i64 a b = 0
  hb : ∀ m : Nat, m < E → ∃ s1 s2 t1 t2 : Int, reply (habitR h xs ls m) = .tuple #[.agg #[.int .i64 s1, .int .i64 s2], .int .i64 0] ∧ reply (habitR h' xs ls' m) = .tuple #[.agg #[.int .i64 t1, .int .i64 t2], .int .i64 0] ∧ s1 ≤ t1 ∧ t2 ≤ s2
  bt : ∀ m : Nat, m < E → ∃ s1 s2 t1 t2 : Int, reply (betweenR h xs ls 0 m) = .tuple #[.agg #[.int .i64 s1, .int .i64 s2], .int .i64 0] ∧ reply (betweenR h' xs ls' 0 m) = .tuple #[.agg #[.int .i64 t1, .int .i64 t2], .int .i64 0] ∧ s1 ≤ t1 ∧ t2 ≤ s2
  pl : ∀ m : Nat, m < I → ∃ s1 s2 o t1 t2 p : Int, reply (placeR h xs ls m) = .tuple #[.agg #[.int .i64 s1, .int .i64 s2], .int .i64 o] ∧ reply (placeR h' xs ls' m) = .tuple #[.agg #[.int .i64 t1, .int .i64 t2], .int .i64 p] ∧ (o = 12 ∨ o = 0 ∧ p = 0 ∧ s1 ≤ t1 ∧ t2 ≤ s2)
set_option maxRecDepth 100000 in
theorem more_facts {h h' : Wd} {xs : List (Int × Int)} {ls ls' : List LkV} {E I : Nat} (t : Inc h h' xs ls ls' E I) {D s1 s2 f : Int} (hD : replyI (dropA h xs ls) = .tuple #[.int .i64 D, .int .i64 0]) (hf : reply (habitR h xs ls 0) = .tuple #[.agg #[.int .i64 s1, .int .i64 s2], .int .i64 f]) :
    ∃ d t1 t2 c : Int, replyI (dropA h' xs ls') = .tuple #[.int .i64 d, .int .i64 0] ∧ (0 ≤ d ∧ d < 4096) ∧ popc D ≤ popc d ∧ reply (habitR h' xs ls' 0) = .tuple #[.agg #[.int .i64 t1, .int .i64 t2], .int .i64 c] ∧ (c = 10 ∨ c = 0 ∧ f = 0 ∧ MG h h' xs ls ls' E I) := by
  have k := wok_of t.v t.nl t.e
  have k' := wok_of t.v' t.nl' t.e'
  have hE4 := t.e4
  have n8 := t.n8
  obtain ⟨D0, d1, d2, d3, d4⟩ := drop_min t.v k
  obtain ⟨d, g1, g2, g3, g4⟩ := drop_min t.v' k'
  have eD : D = (D0 : Int) := by
    have := hD.symm.trans d1
    simpa using this
  have hp := (pow_12 (n := ls'.length) (by omega)).2.1
  have h256 : 2 ^ ls'.length ≤ 256 := (by decide : ∀ m : Fin 9, 2 ^ m.val ≤ 256) ⟨ls'.length, by omega⟩
  have hlow := low_bits (n := ls.length) (d := d) n8.1 (by omega)
  have hpd : popc D ≤ popc (d : Int) := by
    rw [eD]
    refine Int.le_trans (d4 (d % 2 ^ ls.length) hlow.1 ?_) hlow.2
    obtain ⟨x, hx⟩ := (can_iff k').1 g3
    exact (can_iff k).2 ⟨x, inc_tr t (fun j hj hs => not_low n8.1 t.n n8.2 g2 hj hs) hx⟩
  have hEn : h.eyes.toNat = E := by rw [t.e]; rfl
  have hEn' : h'.eyes.toNat = E := by rw [t.e']; rfl
  have hme : ∀ m : Nat, m < E → isImg h.eyes (m : Int) = true := fun m hm => img_iff.2 (by have := t.e; omega)
  have hme' : ∀ m : Nat, m < E → isImg h'.eyes (m : Int) = true := fun m hm => img_iff.2 (by have := t.e'; omega)
  have hmi : ∀ m : Nat, m < I → isImg h.images (m : Int) = true := fun m hm => img_iff.2 (by have := t.i; omega)
  have hmi' : ∀ m : Nat, m < I → isImg h'.images (m : Int) = true := fun m hm => img_iff.2 (by have := t.i'; omega)
  have hH : ∀ m : Nat, m < E → habitR h xs ls m = askR (ovB h (ls.map (travOf h xs)) ls E (allS ls.length) (allS E) 0) (1 + m) := fun m hm => by unfold habitR ovW; rw [t.v, hme m hm, hEn]; rfl
  have hH' : ∀ m : Nat, m < E → habitR h' xs ls' m = askR (ovB h' (ls'.map (travOf h' xs)) ls' E (allS ls'.length) (allS E) 0) (1 + m) := fun m hm => by unfold habitR ovW; rw [t.v', hme' m hm, hEn']; rfl
  have hB : ∀ m : Nat, m < E → betweenR h xs ls 0 m = askR (ovB h (ls.map (travOf h xs)) ls E (allS ls.length) (allS E) (1 + 0)) (1 + m) := fun m hm => by unfold betweenR ovW; rw [t.v, show isImg h.eyes 0 = true from hme 0 (by omega), hme m hm, hEn]; rfl
  have hB' : ∀ m : Nat, m < E → betweenR h' xs ls' 0 m = askR (ovB h' (ls'.map (travOf h' xs)) ls' E (allS ls'.length) (allS E) (1 + 0)) (1 + m) := fun m hm => by unfold betweenR ovW; rw [t.v', show isImg h'.eyes 0 = true from hme' 0 (by omega), hme' m hm, hEn']; rfl
  have hP : ∀ m : Nat, m < I → placeR h xs ls m = askR (ovB h (ls.map (travOf h xs)) ls E (allS ls.length) (allS E) 0) (5 + m) := fun m hm => by unfold placeR ovW; rw [t.v, hmi m hm, hEn]; rfl
  have hP' : ∀ m : Nat, m < I → placeR h' xs ls' m = askR (ovB h' (ls'.map (travOf h' xs)) ls' E (allS ls'.length) (allS E) 0) (5 + m) := fun m hm => by unfold placeR ovW; rw [t.v', hmi' m hm, hEn']; rfl
  have hall : ∀ j, j < ls.length → setI (allS ls.length) j = true → setI (allS ls'.length) j = true := fun j hj _ => setI_allS (by omega) (Nat.lt_of_lt_of_le hj t.n)
  have h0 := hH' 0 (by omega)
  cases ho : ovB h' (ls'.map (travOf h' xs)) ls' E (allS ls'.length) (allS E) 0 with
  | none =>
    rw [ho] at h0
    refine ⟨d, 0, 0, 10, g1, by omega, hpd, ?_, .inl rfl⟩
    have : habitR h' xs ls' 0 = askR none (1 + 0) := h0
    rw [this]; rfl
  | some b' =>
    obtain ⟨⟨x, hx⟩, p1, p2⟩ := ov_some k' (.inl rfl) ho
    have hxw := inc_tr t hall hx
    obtain ⟨b, hb⟩ := ov_yes k (.inl rfl) hxw
    obtain ⟨_, r1, r2⟩ := ov_some k (.inl rfl) hb
    have hine : ∀ {ll : List LkV} {S : Int} m, m < E → inS ll E S (1 + m) := fun m hm => .inr (.inl ⟨m, hm, rfl⟩)
    obtain ⟨s0, es0, A0⟩ := r1 (1 + 0) (hine 0 (by omega))
    obtain ⟨t0, et0, B0⟩ := p1 (1 + 0) (hine 0 (by omega))
    have hf0 : f = 0 := by
      have e1 : habitR h xs ls 0 = askR (some b) (1 + 0) := by rw [← hb]; exact hH 0 (by omega)
      rw [e1] at hf
      unfold askR at hf
      dsimp only at hf
      rw [es0] at hf
      have := hf
      unfold reply at this
      simp at this
      omega
    have e1 : habitR h' xs ls' 0 = askR (some b') (1 + 0) := by rw [← ho]; exact hH' 0 (by omega)
    refine ⟨d, t0.1, t0.2, 0, g1, by omega, hpd, by rw [e1]; unfold askR; dsimp only; rw [et0]; rfl, .inr ⟨rfl, hf0, ⟨?_, fun m hm => ?_, fun m hm => ?_, fun m hm => ?_⟩⟩⟩
    · refine ⟨_, _, sure_eq t.v t.e hb, sure_eq t.v' t.e' ho, ?_⟩
      have hp16 : (2 : Int) ^ E ≤ 16 := (by decide : ∀ k : Fin 5, (2 : Int) ^ k.val ≤ 16) ⟨E, by omega⟩
      have q1 := sure_rng (sureP b) E
      have q2 := sure_rng (sureP b') E
      refine andNot_zero ⟨q1.1, by omega⟩ ⟨q2.1, by omega⟩ (fun m hm hbit => ?_)
      by_cases hmE : m < E
      · rw [bit_of _ E m hmE] at hbit
        rw [setI_sureTo (by omega) hmE]
        obtain ⟨s, es, A⟩ := r1 (1 + m) (hine m hmE)
        obtain ⟨u, eu, B⟩ := p1 (1 + m) (hine m hmE)
        have hi := inc_span t A B
        have hsp : sureP b m = true := by
          cases hq : sureP b m
          · rw [hq] at hbit; simp at hbit
          · rfl
        unfold sureP at hsp ⊢
        rw [es] at hsp
        rw [eu]
        unfold holdB at *
        simp at hsp ⊢
        omega
      · exfalso
        have e2 : (2 : Int) ^ E ≤ 2 ^ m := by
          have h2 := Nat.pow_le_pow_right (n := 2) (by omega) (show E ≤ m by omega)
          have e3 : (2 : Int) ^ m = ((2 ^ m : Nat) : Int) := by simp
          have e4 : (2 : Int) ^ E = ((2 ^ E : Nat) : Int) := by simp
          omega
        rw [Int.ediv_eq_zero_of_lt q1.1 (by omega)] at hbit
        simp at hbit
    · obtain ⟨s, es, A⟩ := r1 (1 + m) (hine m hm)
      obtain ⟨u, eu, B⟩ := p1 (1 + m) (hine m hm)
      have hi := inc_span t A B
      exact ⟨s.1, s.2, u.1, u.2, by rw [hH m hm, hb]; unfold askR; dsimp only; rw [es]; rfl, by rw [hH' m hm, ho]; unfold askR; dsimp only; rw [eu]; rfl, hi.1, hi.2⟩
    · have hb1 : isBase E (1 + 0) := .inr ⟨0, by omega, rfl⟩
      obtain ⟨c, hc⟩ := ov_yes k hb1 hxw
      obtain ⟨c', hc'⟩ := ov_yes k' hb1 hx
      obtain ⟨s, es, A⟩ := (ov_some k hb1 hc).2.1 (1 + m) (hine m hm)
      obtain ⟨u, eu, B⟩ := (ov_some k' hb1 hc').2.1 (1 + m) (hine m hm)
      have hi := inc_span t A B
      exact ⟨s.1, s.2, u.1, u.2, by rw [hB m hm, hc]; unfold askR; dsimp only; rw [es]; rfl, by rw [hB' m hm, hc']; unfold askR; dsimp only; rw [eu]; rfl, hi.1, hi.2⟩
    · by_cases hin : inS ls E (allS ls.length) (5 + m)
      · have hin' : inS ls' E (allS ls'.length) (5 + m) := by
          rcases hin with h1 | ⟨e, he, h1⟩ | ⟨j, hj, hs, h1⟩
          · omega
          · omega
          · exact .inr (.inr ⟨j, Nat.lt_of_lt_of_le hj t.n, hall j hj hs, by rw [t.lk j hj]; exact h1⟩)
        obtain ⟨s, es, A⟩ := r1 _ hin
        obtain ⟨u, eu, B⟩ := p1 _ hin'
        have hi := inc_span t A B
        exact ⟨s.1, s.2, 0, u.1, u.2, 0, by rw [hP m hm, hb]; unfold askR; dsimp only; rw [es]; rfl, by rw [hP' m hm, ho]; unfold askR; dsimp only; rw [eu]; rfl, .inr ⟨rfl, rfl, hi.1, hi.2⟩⟩
      · obtain ⟨q1, q2, c, hq⟩ := reply_ask (ovB h' (ls'.map (travOf h' xs)) ls' E (allS ls'.length) (allS E) 0) (5 + m)
        exact ⟨0, 0, 12, q1, q2, c, by rw [hP m hm, hb]; unfold askR; dsimp only; rw [r2 _ hin]; rfl, by rw [hP' m hm]; exact hq, .inl rfl⟩
/-- A watch with another habit; one with a better eye. -/
def thinH (h : Wd) (lo hi : Int) : Wd := ⟨h.a, h.n, h.cap, h.eLo, h.eHi, h.images, h.eyes, lo, hi, h.la, h.ln, h.lcap⟩
def bestH (h : Wd) (lo : Int) : Wd := ⟨h.a, h.n, h.cap, lo, h.eHi, h.images, h.eyes, h.hLo, h.hHi, h.la, h.ln, h.lcap⟩
theorem inc_more {h : Wd} {xs : List (Int × Int)} {ls : List LkV} {E I : Nat} (hv : validW h xs ls = true) (hn : ls.length = h.ln) (h7 : ls.length ≤ 7) (hE : h.eyes = (E : Int)) (hI : h.images = (I : Int)) {sa : Option Addr} {m cap : Nat} {l : LkV} (hm : m = ls.length + 1)
    (v' : validW (partH h sa m cap) xs (ls ++ [l]) = true) : Inc h (partH h sa m cap) xs ls (ls ++ [l]) E I :=
  ⟨hv, v', hn, by rw [List.length_append, hm]; rfl, hE, hE, hI, hI, by simp, ⟨h7, by simp; omega⟩, fun k hk => by simp [List.getD, List.getElem?_append_left hk], ⟨Int.le_refl _, Int.le_refl _⟩, fun k hk => ⟨Int.le_refl _, Int.le_refl _⟩⟩
theorem inc_thin {h : Wd} {xs : List (Int × Int)} {ls : List LkV} {E I : Nat} (hv : validW h xs ls = true) (hn : ls.length = h.ln) (h7 : ls.length ≤ 7) (hE : h.eyes = (E : Int)) (hI : h.images = (I : Int)) {lo hi : Int} (h1 : h.hLo ≤ lo) (h2 : hi ≤ h.hHi)
    (v' : validW (thinH h lo hi) xs ls = true) : Inc h (thinH h lo hi) xs ls ls E I :=
  ⟨hv, v', hn, hn, hE, hE, hI, hI, Nat.le_refl _, ⟨h7, by omega⟩, fun _ _ => rfl, ⟨h1, h2⟩, fun k hk => ⟨Int.le_refl _, Int.le_refl _⟩⟩
theorem trav_val {h : Wd} {xs : List (Int × Int)} {ls : List LkV} (hv : validW h xs ls = true) {k : Nat} (hk : k < ls.length) : travOf h xs (ls.getD k (0, 0, 0)) = ((ls.getD k (0, 0, 0)).2.2 + (xs.getD ((ls.getD k (0, 0, 0)).2.2 / 1000).toNat (0, 0)).1 + h.eLo, (ls.getD k (0, 0, 0)).2.2 + (xs.getD ((ls.getD k (0, 0, 0)).2.2 / 1000).toNat (0, 0)).2 + h.eHi) := by
  have V := validW_iff hv
  have e : ls.getD k (0, 0, 0) = ls[k] := by simp [List.getD, hk]
  have hs := (V.lk _ (List.getElem_mem hk)).2.2
  rw [e]
  generalize ls[k] = l at hs
  unfold saysB at hs
  rw [Bool.and_eq_true] at hs
  obtain ⟨s1, s2⟩ := hs
  unfold validB at s1
  rw [Bool.and_eq_true, Bool.and_eq_true, hold_iff, hold_iff] at s1
  obtain ⟨⟨q1, q2⟩, q3⟩ := s1
  unfold hasTrn at s2
  simp only [Bool.and_eq_true, decide_eq_true_eq] at s2
  obtain ⟨⟨x1, x2⟩, x3, x4⟩ := ev_get q2 (l.2.2 / 1000).toNat
  unfold travOf
  rw [trav_eq (by omega) (by omega) (by omega), trav_eq (by omega) (by omega) (by omega)]
theorem inc_best {h : Wd} {xs : List (Int × Int)} {ls : List LkV} {E I : Nat} (hv : validW h xs ls = true) (hn : ls.length = h.ln) (h7 : ls.length ≤ 7) (hE : h.eyes = (E : Int)) (hI : h.images = (I : Int)) {lo : Int} (h1 : h.eLo ≤ lo)
    (v' : validW (bestH h lo) xs ls = true) : Inc h (bestH h lo) xs ls ls E I :=
  ⟨hv, v', hn, hn, hE, hE, hI, hI, Nat.le_refl _, ⟨h7, by omega⟩, fun _ _ => rfl, ⟨Int.le_refl _, Int.le_refl _⟩, fun k hk => by
    rw [trav_val hv hk, trav_val v' hk]
    show _ ≤ _ + _ + lo ∧ _ + _ + h.eHi ≤ _
    dsimp only
    omega⟩
end Ey
end Go.Proofs.Ytcfjakifeihbpaa
