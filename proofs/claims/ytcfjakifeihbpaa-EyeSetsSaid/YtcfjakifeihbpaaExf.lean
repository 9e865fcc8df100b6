/- Eye: what is told of the measurers whose habits explain all. -/
import Derived.Test.YtcfjakifeihbpaaEpt
import Derived.Test.YtcfjakifeihbpaaEdf
namespace Go.Proofs.Ytcfjakifeihbpaa
namespace Ey
open Go.RowKit Nb

theorem exists_min {P : Nat → Prop} (h : ∃ n, P n) : ∃ n, P n ∧ ∀ m, m < n → ¬ P m := by
  obtain ⟨n, hn⟩ := h
  induction n using Nat.strongRecOn with
  | ind n ih =>
    by_cases hm : ∃ m, m < n ∧ P m
    · obtain ⟨m, h1, h2⟩ := hm
      exact ih m h1 h2
    · exact ⟨n, hn, fun m h1 h2 => hm ⟨m, h1, h2⟩⟩
/-- The first of all sets that is as asked, and what it is. -/
theorem first_min {n : Nat} (hn : n ≤ 12) {b : Int → Bool} (h : ∃ y : Nat, y < 2 ^ n ∧ b y = true) :
    ∃ x : Nat, firstOf n b = x ∧ x < 2 ^ n ∧ b x = true ∧ ∀ y : Nat, y < 2 ^ n → b y = true → popc (x : Int) < popc (y : Int) ∨ (popc (x : Int) = popc (y : Int) ∧ x ≤ y) := by
  have hp := pow_12 hn
  obtain ⟨m, ⟨x, hx, hb, hm⟩, hmin⟩ := exists_min (P := fun m => ∃ y : Nat, y < 2 ^ n ∧ b y = true ∧ (popc (y : Int)).toNat * 4096 + y = m) (by obtain ⟨y, h1, h2⟩ := h; exact ⟨_, y, h1, h2, rfl⟩)
  have hall : ∀ y : Nat, y < 2 ^ n → b y = true → popc (x : Int) < popc (y : Int) ∨ (popc (x : Int) = popc (y : Int) ∧ x ≤ y) := fun y hy hby => by
    have h1 := popc_rng hn hx
    have h2 := popc_rng hn hy
    by_cases hlt : (popc (y : Int)).toNat * 4096 + y < m
    · exact absurd ⟨y, hy, hby, rfl⟩ (hmin _ hlt)
    · by_cases h3 : popc (x : Int) < popc (y : Int)
      · exact .inl h3
      · right; omega
  exact ⟨x, firstOf_best hn hx hb hall, hx, hb, hall⟩
theorem or_bit12 {a : Int} {e : Nat} (he : e < 12) (h0 : 0 ≤ a) (h1 : a < 2 ^ e) : bits .or .i64 a (wrap64 (2 ^ e)) = a + 2 ^ e := by
  obtain ⟨n, rfl⟩ : ∃ n : Nat, a = (n : Int) := ⟨a.toNat, by omega⟩
  have hp : wrap64 (2 ^ e) = ((2 ^ e : Nat) : Int) := (by decide +kernel : ∀ k : Fin 12, wrap64 (2 ^ k.val) = ((2 ^ k.val : Nat) : Int)) ⟨e, he⟩
  have hp2 : 1 ≤ 2 ^ e ∧ 2 ^ e < 4096 := (by decide +kernel : ∀ k : Fin 12, 1 ≤ 2 ^ k.val ∧ 2 ^ k.val < 4096) ⟨e, he⟩
  have hpi : (2 : Int) ^ e = ((2 ^ e : Nat) : Int) := by simp
  have hn : n < 2 ^ e := by rw [hpi] at h1; omega
  unfold bits
  rw [hp]
  dsimp only
  have ho : n ||| 2 ^ e = n + 2 ^ e := by
    have := Nat.two_pow_add_eq_or_of_lt hn 1
    rw [Nat.mul_one] at this
    rw [Nat.or_comm]
    omega
  rw [BitVec.toNat_or, bv_nat (by omega), bv_nat (by omega), ho, i64_of_nat (by omega), hpi]
  omega
theorem setI_sureTo {p : Nat → Bool} {n k : Nat} (hn : n ≤ 12) (hk : k < n) : setI (sureTo p n) k = p k := by
  have hr := sure_rng p n
  have hp := pow_12 hn
  rw [setI_has ⟨hr.1, by rw [hp.2.2] at hr; omega⟩ (by omega)]
  unfold hasB
  rw [bit_of p n k hk]
  cases p k <;> rfl
theorem popc_less {x : Nat} {m : Nat} (hx : x < 16) (hm : m < 4) (h : setI x m = true) : ∃ y : Nat, y < 16 ∧ (y : Int) = x - 2 ^ m ∧ popc (y : Int) < popc (x : Int) ∧ y < 2 ^ 4 ∧ (y ≤ x) ∧ setI y m = false ∧ ∀ e, e < 4 → e ≠ m → setI y e = setI x e := by
  have := (by decide +kernel : ∀ x : Fin 16, ∀ m : Fin 4, setI (x.val : Int) m.val = true → ∃ y : Fin 16, (y.val : Int) = x.val - 2 ^ m.val ∧ popc (y.val : Int) < popc (x.val : Int) ∧ y.val ≤ x.val ∧ setI (y.val : Int) m.val = false ∧ ∀ e : Fin 4, e.val ≠ m.val → setI (y.val : Int) e.val = setI (x.val : Int) e.val) ⟨x, hx⟩ ⟨m, hm⟩ h
  obtain ⟨y, h1, h2, h3, h4, h5⟩ := this
  exact ⟨y.val, y.isLt, h1, h2, by have := y.isLt; omega, h3, h4, fun e he hne => h5 ⟨e, he⟩ hne⟩
theorem andNot_zero {a b : Int} (ha : 0 ≤ a ∧ a < 16) (hb : 0 ≤ b ∧ b < 16) (h : ∀ k, k < 4 → a / 2 ^ k % 2 = 1 → setI b k = true) : bits .andNot .i64 a b = 0 := by
  have := (by decide +kernel : ∀ a b : Fin 16, (∀ k : Fin 4, (a.val : Int) / 2 ^ k.val % 2 = 1 → setI (b.val : Int) k.val = true) → bits .andNot .i64 (a.val : Int) (b.val : Int) = 0) ⟨a.toNat, by omega⟩ ⟨b.toNat, by omega⟩
  dsimp only at this
  rw [show ((a.toNat : Nat) : Int) = a by omega, show ((b.toNat : Nat) : Int) = b by omega] at this
  exact this (fun k => h k.val k.isLt)
theorem setI_zero {k : Nat} (hk : k < 12) : setI 0 k = false := (by decide +kernel : ∀ k : Fin 12, setI 0 k.val = false) ⟨k, hk⟩
section
variable {h : Wd} {xs : List (Int × Int)} {ls : List LkV} {E : Nat}
/-- The looks of a set alone tell what they tell. -/
theorem part_tr (hl : ls.length ≤ 12) (S H : Int) (sa : Option Addr) (n cap : Nat) (x : Nat → Int) :
    TrS (partH h sa n cap) ((partS ls S).map (travOf h xs)) (partS ls S) E (allS (partS ls S).length) H x ↔ TrS h (ls.map (travOf h xs)) ls E S H x := by
  have hpl : (partS ls S).length ≤ 12 := Nat.le_trans (part_len ls S ls.length) hl
  constructor
  · rintro ⟨a, b⟩
    refine ⟨a, fun k hk hs => ?_⟩
    obtain ⟨j, hj, ej⟩ := List.getElem_of_mem (part_mem.2 ⟨k, hk, hs, rfl⟩ : ls.getD k (0, 0, 0) ∈ partS ls S)
    have hg : (partS ls S).getD j (0, 0, 0) = ls.getD k (0, 0, 0) := by rw [← ej]; simp [List.getD, hj]
    have := b j hj (setI_allS hpl hj)
    rw [getD_map hj, hg] at this
    rw [getD_map hk]
    exact this
  · rintro ⟨a, b⟩
    refine ⟨a, fun k hk _ => ?_⟩
    have hg : (partS ls S).getD k (0, 0, 0) = (partS ls S)[k] := by simp [List.getD, hk]
    obtain ⟨j, hj, hs, ej⟩ := part_mem.1 (List.getElem_mem hk)
    rw [getD_map hk, hg, ej]
    have := b j hj hs
    rw [getD_map hj] at this
    exact this
theorem part_valid (hv : validW h xs ls = true) (S : Int) (sa : Option Addr) (n cap : Nat) : validW (partH h sa n cap) xs (partS ls S) = true := by
  unfold validW at hv ⊢
  simp only [Bool.and_eq_true, decide_eq_true_eq] at hv ⊢
  obtain ⟨⟨a, b⟩, c⟩ := hv
  refine ⟨⟨a, Nat.le_trans (part_len ls S ls.length) b⟩, List.all_eq_true.2 (fun l hl => ?_)⟩
  obtain ⟨j, hj, _, rfl⟩ := part_mem.1 hl
  have e : ls.getD j (0, 0, 0) = ls[j] := by simp [List.getD, hj]
  rw [e]
  exact List.all_eq_true.1 c _ (List.getElem_mem hj)
end
/-- A watch whose measurers have no habits. -/
def noneH (h : Wd) : Wd := ⟨h.a, h.n, h.cap, h.eLo, h.eHi, h.images, h.eyes, 0, 0, h.la, h.ln, h.lcap⟩
theorem none_valid {h : Wd} {xs : List (Int × Int)} {ls : List LkV} (hv : validW h xs ls = true) : validW (noneH h) xs ls = true := by
  unfold validW at hv ⊢
  simp only [Bool.and_eq_true, decide_eq_true_eq] at hv ⊢
  obtain ⟨⟨⟨⟨⟨⟨a, b⟩, c⟩, d⟩, e⟩, f⟩, g⟩ := hv
  exact ⟨⟨⟨⟨⟨⟨a, b⟩, c⟩, by show holdB (-200) 200 0 0 = true; decide⟩, by show holdB 0 0 0 0 = true; decide⟩, f⟩, g⟩
/-- The looks that are not of one measurer. -/
def notOf (ls : List LkV) (m : Int) (k : Nat) : Bool := (ls.getD k (0, 0, 0)).1 != m
structure XF (h : Wd) (xs : List (Int × Int)) (ls : List LkV) (m c who sure g : Int) : Prop where
  w : replyI (explainA h xs ls) = .tuple #[.int .i64 who, .int .i64 c]
  s : replyI (sureA h xs ls) = .tuple #[.int .i64 sure, .int .i64 c]
  cs : c = 10 ∧ who = 0 ∧ sure = 0 ∨ c = 0 ∧ (0 ≤ who ∧ who < 2 ^ h.eyes.toNat) ∧ (∃ q1 q2, reply (habitR (noneH h) xs ls 0) = .tuple #[.agg #[.int .i64 q1, .int .i64 q2], .int .i64 g]) ∧ ((who == 0) = (g == 0)) ∧ bits .andNot .i64 sure who = 0 ∧
    ∀ sa cap, ∃ less, replyI (explainA (partH h sa (partS ls (sureTo (notOf ls m) ls.length)).length cap) xs (partS ls (sureTo (notOf ls m) ls.length))) = .tuple #[.int .i64 less, .int .i64 0] ∧ (0 ≤ less ∧ less < 16) ∧ less / 2 ^ m.toNat % 2 = 0 ∧ popc less ≤ popc who
theorem explain_facts {h : Wd} {xs : List (Int × Int)} {ls : List LkV} (hv : validW h xs ls = true) (hn : ls.length = h.ln) {m : Int} (hm : 0 ≤ m ∧ m < h.eyes) : ∃ c who sure g, XF h xs ls m c who sure g := by
  have V := validW_iff hv
  obtain ⟨E, hE⟩ : ∃ E : Nat, h.eyes = (E : Int) := ⟨h.eyes.toNat, by have := V.ey; omega⟩
  have k0 := wok_of hv hn hE
  have hEn : h.eyes.toNat = E := by rw [hE]; rfl
  have hEe : eyesN h = E := hEn
  have hE4 : E ≤ 4 := k0.e4
  have hE1 : 1 ≤ E := by have := V.ey; omega
  have hl12 := k0.l12
  have hp16 : 2 ^ E ≤ 16 := (by decide : ∀ k : Fin 5, 2 ^ k.val ≤ 16) ⟨E, by omega⟩
  have hX : explainA h xs ls = explainR h xs ls := by unfold explainA; rw [hv]; rfl
  have hSu : sureA h xs ls = sureR h xs ls := by unfold sureA; rw [hv]; rfl
  have hoV : ovW h xs ls 0 = ovB h (ls.map (travOf h xs)) ls E (allS ls.length) (allS E) 0 := by unfold ovW; rw [hEn]
  cases hc : canW h (ls.map (travOf h xs)) ls E (allS ls.length) (allS E) with
  | false =>
    refine ⟨10, 0, 0, 0, ?_, ?_, .inl ⟨rfl, rfl, rfl⟩⟩
    · rw [hX]; unfold explainR; rw [hEe, hc]; rfl
    · rw [hSu]; unfold sureR; rw [hoV, (ov_none k0 (.inl rfl)).2 hc]; rfl
  | true =>
    obtain ⟨b, hb⟩ : ∃ b, ovB h (ls.map (travOf h xs)) ls E (allS ls.length) (allS E) 0 = some b := by
      cases ho : ovB h (ls.map (travOf h xs)) ls E (allS ls.length) (allS E) 0 with
      | none => rw [(ov_none k0 (.inl rfl)).1 ho] at hc; cases hc
      | some b => exact ⟨b, rfl⟩
    have hs := ov_some k0 (.inl rfl) hb
    have hallN : ((allS E : Int)) = ((2 ^ E - 1 : Nat) : Int) := (by decide : ∀ k : Fin 5, allS k.val = ((2 ^ k.val - 1 : Nat) : Int)) ⟨E, by omega⟩
    have h2E := Nat.two_pow_pos E
    obtain ⟨W, hW, hW1, hW2, hWm⟩ := first_min (n := E) (by omega) (b := fun H => canW h (ls.map (travOf h xs)) ls E (allS ls.length) H) ⟨2 ^ E - 1, by omega, by rw [← hallN]; exact hc⟩
    obtain ⟨xw, hxw⟩ := (can_iff k0).1 hW2
    have hhab : ∀ (H : Int) e, e < E → ∀ q : Nat → Int, (habS h H e).1 ≤ q (1 + e) - q 0 ∧ q (1 + e) - q 0 ≤ (habS h H e).2 → h.hLo ≤ q (1 + e) - q 0 ∧ q (1 + e) - q 0 ≤ h.hHi := fun H e he q hq => by
      have := V.hb
      unfold habS at hq
      split at hq
      · exact hq
      · simp only at hq; omega
    have hfull : ∀ (S H : Int) q, TrS h (ls.map (travOf h xs)) ls E S H q → TrS h (ls.map (travOf h xs)) ls E S (allS E) q := fun S H q hq => ⟨fun e he => by
      have := hhab H e he q (hq.hab e he)
      unfold habS
      rw [setI_allS (by omega) he]
      exact this, hq.look⟩
    -- without habits
    have hnv := none_valid hv
    have kn : WOk (noneH h) (ls.map (travOf h xs)) ls E := wok_of (h := noneH h) hnv hn hE
    have hnone : canW (noneH h) (ls.map (travOf h xs)) ls E (allS ls.length) (allS E) = canW h (ls.map (travOf h xs)) ls E (allS ls.length) 0 := by
      have hiff : (∃ x, TrS (noneH h) (ls.map (travOf h xs)) ls E (allS ls.length) (allS E) x) ↔ ∃ x, TrS h (ls.map (travOf h xs)) ls E (allS ls.length) 0 x := by
        have hz : ∀ e, e < E → habS (noneH h) (allS E) e = habS h 0 e := fun e he => by
          unfold habS
          rw [setI_zero (by omega)]
          split <;> rfl
        constructor
        · rintro ⟨x, a, b⟩; exact ⟨x, fun e he => by rw [← hz e he]; exact a e he, b⟩
        · rintro ⟨x, a, b⟩; exact ⟨x, fun e he => by rw [hz e he]; exact a e he, b⟩
      have h3 := (can_iff kn).trans (hiff.trans (can_iff k0).symm)
      cases h1 : canW h (ls.map (travOf h xs)) ls E (allS ls.length) 0
      · cases h2 : canW (noneH h) (ls.map (travOf h xs)) ls E (allS ls.length) (allS E)
        · rfl
        · rw [h3.1 h2] at h1; cases h1
      · exact h3.2 h1
    have hHn : habitR (noneH h) xs ls 0 = askR (ovW (noneH h) xs ls 0) 1 := by
      unfold habitR
      rw [hnv, img_iff.2 (show (0 : Int) ≤ 0 ∧ (0 : Int) < (noneH h).eyes from ⟨by omega, by show (0 : Int) < h.eyes; omega⟩)]
      rfl
    have hoN : ovW (noneH h) xs ls 0 = ovB (noneH h) (ls.map (travOf h xs)) ls E (allS ls.length) (allS E) 0 := by
      unfold ovW
      rw [show (noneH h).eyes.toNat = E from hEn]
      rfl
    have hg : ∃ q1 q2 g, reply (habitR (noneH h) xs ls 0) = .tuple #[.agg #[.int .i64 q1, .int .i64 q2], .int .i64 g] ∧ (g == 0) = canW h (ls.map (travOf h xs)) ls E (allS ls.length) 0 := by
      rw [hHn, hoN, ← hnone]
      cases ho : ovB (noneH h) (ls.map (travOf h xs)) ls E (allS ls.length) (allS E) 0 with
      | none => exact ⟨0, 0, 10, rfl, by rw [(ov_none kn (.inl rfl)).1 ho]; rfl⟩
      | some bn =>
        obtain ⟨sn, e1, _⟩ := (ov_some kn (.inl rfl) ho).2.1 1 (.inr (.inl ⟨0, by omega, rfl⟩))
        refine ⟨sn.1, sn.2, 0, by unfold askR; dsimp only; rw [e1]; rfl, ?_⟩
        rw [(can_iff kn).2 (ov_some kn (.inl rfl) ho).1]; rfl
    obtain ⟨q1, q2, g, hq, hgc⟩ := hg
    have hw0 : ((W : Int) == 0) = canW h (ls.map (travOf h xs)) ls E (allS ls.length) 0 := by
      cases h1 : canW h (ls.map (travOf h xs)) ls E (allS ls.length) 0
      · apply beq_eq_false_iff_ne.2
        intro e
        have e2 : W = 0 := by omega
        rw [e2] at hW2
        rw [show ((0 : Nat) : Int) = 0 from rfl] at hW2
        rw [hW2] at h1; cases h1
      · have h2 := hWm 0 (by omega) h1
        have h3 := popc_rng (n := E) (by omega) hW1
        have h4 : popc ((0 : Nat) : Int) = 0 := by decide
        have : W = 0 := by omega
        rw [this]; rfl
    obtain ⟨M, hM⟩ : ∃ M : Nat, m = (M : Int) := ⟨m.toNat, by omega⟩
    have hME : M < E := by omega
    refine ⟨0, W, sureTo (sureP b) E, g, ?_, ?_, .inr ⟨rfl, ⟨by omega, ?_⟩, ⟨q1, q2, hq⟩, by rw [hw0, hgc], ?_, fun sa cap => ?_⟩⟩
    · rw [hX]; unfold explainR; rw [hEe, hc, hW]; rfl
    · rw [hSu]; unfold sureR; rw [hoV, hb, hEe]; rfl
    · rw [hEn]; have := (pow_12 (n := E) (by omega)).2.2; rw [this]; omega
    · have hr := sure_rng (sureP b) E
      have hpE := (pow_12 (n := E) (by omega)).2.2
      refine andNot_zero ⟨hr.1, by rw [hpE] at hr; omega⟩ ⟨by omega, by omega⟩ (fun k hk hbit => ?_)
      by_cases hkE : k < E
      · rw [bit_of _ E k hkE] at hbit
        cases hsk : setI W k
        · exfalso
          obtain ⟨s, es, S⟩ := hs.2.1 (1 + k) (.inr (.inl ⟨k, hkE, rfl⟩))
          have h1 := S.all xw (hfull _ _ _ hxw)
          have h2 := hxw.hab k hkE
          unfold habS at h2
          rw [hsk] at h2
          simp only [Bool.false_eq_true, if_false] at h2
          have hp : sureP b k = false := by
            unfold sureP
            rw [es]
            have : holdB s.1 s.2 0 0 = true := hold_iff.2 (by omega)
            simp [this]
          rw [hp] at hbit
          simp at hbit
        · rfl
      · exfalso
        have h1 : sureTo (sureP b) E / 2 ^ k = 0 := by
          refine Int.ediv_eq_zero_of_lt hr.1 (Int.lt_of_lt_of_le hr.2 ?_)
          have h2 := Nat.pow_le_pow_right (n := 2) (by omega) (show E ≤ k by omega)
          have e2 : (2 : Int) ^ k = ((2 ^ k : Nat) : Int) := by simp
          rw [hpE, e2]
          omega
        rw [h1] at hbit; simp at hbit
    · -- without the looks of one measurer
      have hpv := part_valid hv (sureTo (notOf ls m) ls.length) sa (partS ls (sureTo (notOf ls m) ls.length)).length cap
      have kp : WOk (partH h sa (partS ls (sureTo (notOf ls m) ls.length)).length cap) ((partS ls (sureTo (notOf ls m) ls.length)).map (travOf h xs)) (partS ls (sureTo (notOf ls m) ls.length)) E := wok_of (h := partH h sa _ cap) hpv rfl hE
      have hcp : ∀ H, canW (partH h sa (partS ls (sureTo (notOf ls m) ls.length)).length cap) ((partS ls (sureTo (notOf ls m) ls.length)).map (travOf h xs)) (partS ls (sureTo (notOf ls m) ls.length)) E (allS (partS ls (sureTo (notOf ls m) ls.length)).length) H = true ↔ ∃ x, TrS h (ls.map (travOf h xs)) ls E (sureTo (notOf ls m) ls.length) H x := fun H => by
        rw [can_iff kp]
        exact ⟨fun ⟨x, hx⟩ => ⟨x, (part_tr hl12 _ H sa _ cap x).1 hx⟩, fun ⟨x, hx⟩ => ⟨x, (part_tr hl12 _ H sa _ cap x).2 hx⟩⟩
      have hsub : ∀ H x, TrS h (ls.map (travOf h xs)) ls E (allS ls.length) H x → TrS h (ls.map (travOf h xs)) ls E (sureTo (notOf ls m) ls.length) H x := fun H x hx => ⟨hx.hab, fun k hk _ => hx.look k hk (setI_allS hl12 hk)⟩
      -- the measurer's habit can be left out
      have hdrop : ∀ (H H' : Int) x, (∀ e, e < E → e ≠ M → setI H' e = setI H e) → setI H' M = false → TrS h (ls.map (travOf h xs)) ls E (sureTo (notOf ls m) ls.length) H x → ∃ y, TrS h (ls.map (travOf h xs)) ls E (sureTo (notOf ls m) ls.length) H' y := fun H H' x h1 h2 hx => by
        refine ⟨fun k => if k = 1 + M then x 0 else x k, fun e he => ?_, fun k hk hsk => ?_⟩
        · by_cases hem : e = M
          · subst hem
            unfold habS
            rw [h2]
            simp
          · have := hx.hab e he
            unfold habS at this ⊢
            rw [h1 e he hem]
            have e1 : ¬ (1 + e = 1 + M) := by omega
            have e2 : ¬ (0 = 1 + M) := by omega
            simp only [e1, e2, if_false]
            exact this
        · have := hx.look k hk hsk
          rw [setI_sureTo hl12 hk] at hsk
          have hne : (ls.getD k (0, 0, 0)).1 ≠ m := by unfold notOf at hsk; simpa using hsk
          have hey := k0.ey k hk
          have e1 : ¬ (1 + (ls.getD k (0, 0, 0)).1.toNat = 1 + M) := by omega
          have e2 : ¬ (5 + (ls.getD k (0, 0, 0)).2.1.toNat = 1 + M) := by omega
          simp only [e1, e2, if_false]
          exact this
      have hok : canW (partH h sa (partS ls (sureTo (notOf ls m) ls.length)).length cap) ((partS ls (sureTo (notOf ls m) ls.length)).map (travOf h xs)) (partS ls (sureTo (notOf ls m) ls.length)) E (allS (partS ls (sureTo (notOf ls m) ls.length)).length) (allS E) = true := by
        rw [hcp]
        obtain ⟨x, hx⟩ := (can_iff k0).1 hc
        exact ⟨x, hsub _ _ hx⟩
      obtain ⟨L, hL, hL1, hL2, hLm⟩ := first_min (n := E) (by omega) (b := fun H => canW (partH h sa (partS ls (sureTo (notOf ls m) ls.length)).length cap) ((partS ls (sureTo (notOf ls m) ls.length)).map (travOf h xs)) (partS ls (sureTo (notOf ls m) ls.length)) E (allS (partS ls (sureTo (notOf ls m) ls.length)).length) H) ⟨2 ^ E - 1, by omega, by rw [← hallN]; exact hok⟩
      have hLM : setI L M = false := by
        cases hs1 : setI L M
        · rfl
        · exfalso
          obtain ⟨y, y1, y2, y3, _, y4, y5, y6⟩ := popc_less (x := L) (m := M) (by omega) (by omega) hs1
          obtain ⟨x, hx⟩ := (hcp L).1 hL2
          have := hLm y (by omega) ((hcp y).2 (hdrop L y x (fun e he hne => y6 e (by omega) hne) y5 hx))
          omega
      refine ⟨L, ?_, ⟨by omega, by omega⟩, ?_, ?_⟩
      · unfold explainA
        rw [hpv, if_pos rfl]
        unfold explainR
        rw [show eyesN (partH h sa (partS ls (sureTo (notOf ls m) ls.length)).length cap) = E from hEe]
        rw [show travOf (partH h sa (partS ls (sureTo (notOf ls m) ls.length)).length cap) xs = travOf h xs from rfl, hok, hL]
        rfl
      · have h1 : setI L M = hasB L M := setI_has ⟨by omega, by omega⟩ (by omega)
        rw [h1] at hLM
        unfold hasB at hLM
        have h2 : (L : Int) / 2 ^ M % 2 ≠ 1 := beq_eq_false_iff_ne.1 hLM
        have h3 : m.toNat = M := by omega
        rw [h3]
        omega
      · cases hs1 : setI W M
        · obtain ⟨y, hy⟩ := hdrop W W xw (fun _ _ _ => rfl) hs1 (hsub _ _ hxw)
          have := hLm W hW1 ((hcp W).2 ⟨y, hy⟩)
          omega
        · obtain ⟨y, y1, y2, y3, _, y4, y5, y6⟩ := popc_less (x := W) (m := M) (by omega) (by omega) hs1
          have := hLm y (by omega) ((hcp y).2 (hdrop W y xw (fun e he hne => y6 e (by omega) hne) y5 (hsub _ _ hxw)))
          omega
end Ey
end Go.Proofs.Ytcfjakifeihbpaa
