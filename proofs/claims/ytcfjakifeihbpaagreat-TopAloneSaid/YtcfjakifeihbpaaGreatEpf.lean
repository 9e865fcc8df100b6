/- Eye: what is told of a place, and of the habits of those who looked at it. -/
import Derived.Test.YtcfjakifeihbpaaGreatEfa
namespace Go.Proofs.YtcfjakifeihbpaaGreat
namespace Ey
open Go.RowKit Nb

def seenB (ls : List LkV) (i : Int) (k : Nat) : Bool := (ls.take k).any (fun l => l.2.1 == i)
theorem seen_zero (ls : List LkV) (i : Int) : seenB ls i 0 = false := rfl
theorem seen_yes {ls : List LkV} {i : Int} {k : Nat} (hk : k < ls.length) (h : (ls.getD k (0, 0, 0)).2.1 = i) : seenB ls i (k + 1) = true := by
  unfold seenB
  have e : ls.getD k (0, 0, 0) = ls[k] := by simp [List.getD, hk]
  rw [List.take_succ_eq_append_getElem hk, List.any_append, ← e]
  simp only [List.any_cons, h, beq_self_eq_true, List.any_nil, Bool.true_or, Bool.or_true]
theorem seen_no {ls : List LkV} {i : Int} {k : Nat} (hk : k < ls.length) (h : ¬ (ls.getD k (0, 0, 0)).2.1 = i) : seenB ls i (k + 1) = seenB ls i k := by
  unfold seenB
  have e : ls.getD k (0, 0, 0) = ls[k] := by simp [List.getD, hk]
  rw [List.take_succ_eq_append_getElem hk, List.any_append, ← e]
  simp only [List.any_cons, List.any_nil, beq_eq_false_iff_ne.2 h, Bool.or_false]
theorem seen_iff {ls : List LkV} {i : Int} : seenB ls i ls.length = true ↔ ∃ k, k < ls.length ∧ (ls.getD k (0, 0, 0)).2.1 = i := by
  unfold seenB
  rw [List.take_length, List.any_eq_true]
  constructor
  · rintro ⟨l, hl, h⟩
    obtain ⟨k, hk, rfl⟩ := List.getElem_of_mem hl
    exact ⟨k, hk, by have e : ls.getD k (0, 0, 0) = ls[k] := by simp [List.getD, hk]
                     rw [e]; simpa using h⟩
  · rintro ⟨k, hk, h⟩
    have e : ls.getD k (0, 0, 0) = ls[k] := by simp [List.getD, hk]
    rw [e] at h
    exact ⟨ls[k], List.getElem_mem hk, by simpa using h⟩
/-- Every look is in the set of all. -/
theorem setI_allS {n k : Nat} (hn : n ≤ 12) (hk : k < n) : setI (allS n) k = true := by
  have h := (by decide +kernel : ∀ n : Fin 13, ∀ k : Fin 12, k.val < n.val → setI (allS n.val) k.val = true) ⟨n, by omega⟩ ⟨k, by omega⟩
  exact h hk
theorem habS_b {h : Wd} {ts : List (Int × Int)} {ls : List LkV} {E : Nat} (k : WOk h ts ls E) (H : Int) (e : Nat) : (-1000000 ≤ (habS h H e).1 ∧ (habS h H e).1 ≤ 1000000) ∧ -1000000 ≤ (habS h H e).2 ∧ (habS h H e).2 ≤ 1000000 := by
  have hb := k.hb
  unfold habS
  split
  · exact hb
  · simp
def bd (x : Int) : Prop := -2000000 ≤ x ∧ x ≤ 2000000
/-- What is told of a place: s, or the error c. -/
structure PF (h : Wd) (xs : List (Int × Int)) (ls : List LkV) (i s1 s2 c : Int) : Prop where
  rep : reply (placeR h xs ls i) = .tuple #[.agg #[.int .i64 s1, .int .i64 s2], .int .i64 c]
  cs : c = 0 ∨ c = 10 ∨ c = 12
  z : c ≠ 0 → s1 = 0 ∧ s2 = 0
  yes : c = 0 → seenB ls i ls.length = true
  no : c = 12 → seenB ls i ls.length = false
  b : bd s1 ∧ bd s2
  lk : ∀ k, k < ls.length → (ls.getD k (0, 0, 0)).2.1 = i → ∃ h1 h2 t1 t2, reply (habitR h xs ls (ls.getD k (0, 0, 0)).1) = .tuple #[.agg #[.int .i64 h1, .int .i64 h2], .int .i64 c] ∧
    travOf h xs (ls.getD k (0, 0, 0)) = (t1, t2) ∧ (bd h1 ∧ bd h2 ∧ bd t1 ∧ bd t2) ∧ (c = 0 → ¬ s1 < t1 + h1 ∧ ¬ s2 > t2 + h2 ∧ ¬ s1 > s2)
theorem getD_map {h : Wd} {xs : List (Int × Int)} {ls : List LkV} {k : Nat} (hk : k < ls.length) : (ls.map (travOf h xs)).getD k (0, 0) = travOf h xs (ls.getD k (0, 0, 0)) := by simp [List.getD, hk]
theorem place_facts {h : Wd} {xs : List (Int × Int)} {ls : List LkV} (hv : validW h xs ls = true) (hn : ls.length = h.ln) {i : Int} (hi : 0 ≤ i ∧ i < h.images) : ∃ s1 s2 c, PF h xs ls i s1 s2 c := by
  have V := validW_iff hv
  obtain ⟨E, hE⟩ : ∃ E : Nat, h.eyes = (E : Int) := ⟨h.eyes.toNat, by have := V.ey; omega⟩
  have k0 := wok_of hv hn hE
  have hEn : h.eyes.toNat = E := by rw [hE]; rfl
  have himg : isImg h.images i = true := img_iff.2 hi
  have hey : ∀ k, k < ls.length → isImg h.eyes (ls.getD k (0, 0, 0)).1 = true := fun k hk => by
    have := k0.ey k hk
    rw [img_iff, hE]; exact this
  have hP : placeR h xs ls i = askR (ovW h xs ls 0) (5 + i.toNat) := by unfold placeR; rw [hv, himg]; rfl
  have hH : ∀ k, k < ls.length → habitR h xs ls (ls.getD k (0, 0, 0)).1 = askR (ovW h xs ls 0) (1 + (ls.getD k (0, 0, 0)).1.toNat) := fun k hk => by unfold habitR; rw [hv, hey k hk]; rfl
  have hoV : ovW h xs ls 0 = ovB h (ls.map (travOf h xs)) ls E (allS ls.length) (allS E) 0 := by unfold ovW; rw [hEn]
  have htb : ∀ k, k < ls.length → bd (travOf h xs (ls.getD k (0, 0, 0))).1 ∧ bd (travOf h xs (ls.getD k (0, 0, 0))).2 := fun k hk => by
    have := k0.tb k
    rw [getD_map hk] at this
    unfold bd; omega
  have z0 : bd 0 := by unfold bd; omega
  cases ho : ovW h xs ls 0 with
  | none =>
    refine ⟨0, 0, 10, by rw [hP, ho]; rfl, .inr (.inl rfl), fun _ => ⟨rfl, rfl⟩, fun e => (by cases e), fun e => (by cases e), ⟨z0, z0⟩, fun k hk _ => ?_⟩
    obtain ⟨a, b⟩ := htb k hk
    exact ⟨0, 0, _, _, by rw [hH k hk, ho]; rfl, rfl, ⟨z0, z0, a, b⟩, fun e => (by cases e)⟩
  | some b =>
    have hs := ov_some k0 (.inl rfl) (hoV ▸ ho)
    obtain ⟨_, hin, hout⟩ := hs
    have hseen : inS ls E (allS ls.length) (5 + i.toNat) ↔ seenB ls i ls.length = true := by
      rw [seen_iff]
      constructor
      · rintro (h0 | ⟨e, he, h0⟩ | ⟨j, hj, _, h0⟩)
        · omega
        · have := k0.e4; omega
        · have := k0.im j hj
          exact ⟨j, hj, by omega⟩
      · rintro ⟨j, hj, h0⟩
        exact .inr (.inr ⟨j, hj, setI_allS k0.l12 hj, by rw [h0]⟩)
    have hhab : ∀ k, k < ls.length → ∃ s, b (1 + (ls.getD k (0, 0, 0)).1.toNat) = some s ∧ EndsS h (ls.map (travOf h xs)) ls E (allS ls.length) (allS E) 0 (1 + (ls.getD k (0, 0, 0)).1.toNat) s := fun k hk =>
      hin _ (.inr (.inl ⟨_, by have := k0.ey k hk; omega, rfl⟩))
    have hhb : ∀ (e : Nat), e < E → ∀ s, EndsS h (ls.map (travOf h xs)) ls E (allS ls.length) (allS E) 0 (1 + e) s → bd s.1 ∧ bd s.2 := fun e he s hs => by
      obtain ⟨x, hx, ex⟩ := hs.lo
      obtain ⟨y, hy, ey⟩ := hs.hi
      have h1 := hx.hab e he
      have h2 := hy.hab e he
      have hb := habS_b k0 (allS E) e
      unfold bd
      omega
    cases hsn : seenB ls i ls.length with
    | false =>
      have hb : b (5 + i.toNat) = none := hout _ (fun hc => by rw [hseen] at hc; rw [hsn] at hc; cases hc)
      refine ⟨0, 0, 12, by rw [hP, ho]; unfold askR; dsimp only; rw [hb]; rfl, .inr (.inr rfl), fun _ => ⟨rfl, rfl⟩, fun e => (by cases e), fun _ => hsn, ⟨z0, z0⟩, fun k hk hki => ?_⟩
      exfalso
      have := seen_iff.2 ⟨k, hk, hki⟩
      rw [hsn] at this; cases this
    | true =>
      obtain ⟨s, hb, hse⟩ := hin _ (hseen.2 hsn)
      have key : ∀ k, k < ls.length → (ls.getD k (0, 0, 0)).2.1 = i → ∀ x, TrS h (ls.map (travOf h xs)) ls E (allS ls.length) (allS E) x →
          (travOf h xs (ls.getD k (0, 0, 0))).1 ≤ x (5 + i.toNat) - x (1 + (ls.getD k (0, 0, 0)).1.toNat) ∧ x (5 + i.toNat) - x (1 + (ls.getD k (0, 0, 0)).1.toNat) ≤ (travOf h xs (ls.getD k (0, 0, 0))).2 := fun k hk hki x hx => by
        have := hx.look k hk (setI_allS k0.l12 hk)
        rw [getD_map hk, hki] at this
        exact this
      obtain ⟨x, hx, ex⟩ := hse.lo
      obtain ⟨y, hy, ey⟩ := hse.hi
      have hle := hse.all x hx
      have hbs : bd s.1 ∧ bd s.2 := by
        obtain ⟨k, hk, hki⟩ := seen_iff.1 hsn
        have a1 := key k hk hki x hx
        have a2 := key k hk hki y hy
        obtain ⟨hs', _, he'⟩ := hhab k hk
        have b1 := he'.all x hx
        have b2 := he'.all y hy
        have b3 := k0.tb k
        rw [getD_map hk] at b3
        have c1 := hx.hab _ (show (ls.getD k (0, 0, 0)).1.toNat < E by have := k0.ey k hk; omega)
        have c2 := hy.hab _ (show (ls.getD k (0, 0, 0)).1.toNat < E by have := k0.ey k hk; omega)
        have hb := habS_b k0 (allS E) (ls.getD k (0, 0, 0)).1.toNat
        unfold bd
        omega
      refine ⟨s.1, s.2, 0, by rw [hP, ho]; unfold askR; dsimp only; rw [hb]; rfl, .inl rfl, fun e => absurd rfl e, fun _ => hsn, fun e => (by cases e), hbs, fun k hk hki => ?_⟩
      obtain ⟨hs', hb', he'⟩ := hhab k hk
      obtain ⟨a, b'⟩ := htb k hk
      refine ⟨hs'.1, hs'.2, (travOf h xs (ls.getD k (0, 0, 0))).1, (travOf h xs (ls.getD k (0, 0, 0))).2, by rw [hH k hk, ho]; unfold askR; dsimp only; rw [hb']; rfl, rfl, ⟨(hhb _ (by have := k0.ey k hk; omega) _ he').1, (hhb _ (by have := k0.ey k hk; omega) _ he').2, a, b'⟩, fun _ => ?_⟩
      have a1 := key k hk hki x hx
      have a2 := key k hk hki y hy
      have b1 := he'.all x hx
      have b2 := he'.all y hy
      omega
end Ey
end Go.Proofs.YtcfjakifeihbpaaGreat
