/- Eye: what is told of a watch whose measurers, images and looks are numbered otherwise. -/
import Derived.Test.YtcfjakifeihbpaaEtm
import Derived.Test.YtcfjakifeihbpaaExf
namespace Go.Proofs.Ytcfjakifeihbpaa
namespace Ey
open Go.RowKit Nb

/-- A set of looks told from the last one on; a set of measurers with other numbers. -/
def revS (n : Nat) (S : Int) : Int := sureTo (fun k => setI S (n - 1 - k)) n
def rotS (E a : Nat) (H : Int) : Int := sureTo (fun e => setI H ((e + (E - a % E)) % E)) E
theorem set_nat {n : Nat} (hn : n ≤ 12) (p : Nat → Bool) : ∃ y : Nat, sureTo p n = (y : Int) ∧ y < 2 ^ n := by
  have h := sure_rng p n
  have hp := (pow_12 hn).2.2
  exact ⟨(sureTo p n).toNat, by omega, by omega⟩
theorem rev_popc {n S : Nat} (hn : n ≤ 7) (hS : S < 2 ^ n) : popc (revS n (S : Int)) = popc (S : Int) := by
  have h := (by decide +kernel : ∀ n : Fin 8, ∀ S : Fin 128, S.val < 2 ^ n.val → popc (revS n.val (S.val : Int)) = popc (S.val : Int))
  have : 2 ^ n ≤ 128 := (by decide : ∀ n : Fin 8, 2 ^ n.val ≤ 128) ⟨n, by omega⟩
  exact h ⟨n, by omega⟩ ⟨S, by omega⟩ hS
theorem rot_popc {E a S : Nat} (h1 : 1 ≤ E) (h4 : E ≤ 4) (hS : S < 2 ^ E) : popc (rotS E a (S : Int)) = popc (S : Int) := by
  have h := (by decide +kernel : ∀ E : Fin 5, ∀ a : Fin 4, ∀ S : Fin 16, S.val < 2 ^ E.val → a.val < E.val → popc (rotS E.val a.val (S.val : Int)) = popc (S.val : Int))
  have : 2 ^ E ≤ 16 := (by decide : ∀ n : Fin 5, 2 ^ n.val ≤ 16) ⟨E, by omega⟩
  have ha : a % E < E := Nat.mod_lt _ (by omega)
  have e : rotS E a (S : Int) = rotS E (a % E) (S : Int) := by unfold rotS; rw [Nat.mod_mod]
  rw [e]
  exact h ⟨E, by omega⟩ ⟨a % E, by omega⟩ ⟨S, by omega⟩ hS ha
theorem set_not {n S : Nat} (hn : n ≤ 7) (hS : S < 2 ^ n) {k : Nat} (hk : k < n) : setI (allS n - (S : Int)) k = !setI S k := by
  have h := (by decide +kernel : ∀ n : Fin 8, ∀ S : Fin 128, ∀ k : Fin 8, S.val < 2 ^ n.val → k.val < n.val → setI (allS n.val - (S.val : Int)) k.val = !setI (S.val : Int) k.val)
  have : 2 ^ n ≤ 128 := (by decide : ∀ n : Fin 8, 2 ^ n.val ≤ 128) ⟨n, by omega⟩
  exact h ⟨n, by omega⟩ ⟨S, by omega⟩ ⟨k, by omega⟩ hS hk
theorem rel_all {n E a : Nat} (hn : n ≤ 12) (h1 : 1 ≤ E) (h4 : E ≤ 4) : Rl n E a (allS n) (allS n) (allS E) (allS E) :=
  ⟨fun k hk => by rw [setI_allS hn (by omega), setI_allS hn hk], fun e he => by rw [setI_allS (by omega) (Nat.mod_lt _ (by omega)), setI_allS (by omega) he]⟩
theorem rev_s {n : Nat} (hn : n ≤ 12) (S : Int) {k : Nat} (hk : k < n) : setI (revS n S) (n - 1 - k) = setI S k := by
  unfold revS
  rw [setI_sureTo hn (by omega), show n - 1 - (n - 1 - k) = k by omega]
theorem rev_s' {n : Nat} (hn : n ≤ 12) (S : Int) {k : Nat} (hk : k < n) : setI S (n - 1 - k) = setI (revS n S) k := by
  unfold revS
  rw [setI_sureTo hn hk]
theorem rot_m {E a : Nat} (h1 : 1 ≤ E) (h4 : E ≤ 4) (H : Int) {e : Nat} (he : e < E) : setI (rotS E a H) ((e + a) % E) = setI H e := by
  unfold rotS
  rw [setI_sureTo (by omega) (Nat.mod_lt _ (by omega)), rot_back h1 (by omega) he]
/-- Which looks clash, which must be wrong, which measurers explain: the fewest. -/
theorem clash_min {h : Wd} {xs : List (Int × Int)} {ls : List LkV} {E : Nat} (hv : validW h xs ls = true) (k : WOk h (ls.map (travOf h xs)) ls E) : ∃ W : Nat, replyI (clashA h xs ls) = .tuple #[.int .i64 W, .int .i64 0] ∧ W < 2 ^ ls.length ∧
    (canW h (ls.map (travOf h xs)) ls E (allS ls.length) (allS E) = true ∧ W = 0 ∨ canW h (ls.map (travOf h xs)) ls E (allS ls.length) (allS E) = false ∧ canW h (ls.map (travOf h xs)) ls E W (allS E) = false ∧
      ∀ q : Nat, q < 2 ^ ls.length → canW h (ls.map (travOf h xs)) ls E q (allS E) = false → popc (W : Int) ≤ popc (q : Int)) := by
  have hEe : eyesN h = E := by unfold eyesN; rw [k.eE]; rfl
  have hX : clashA h xs ls = .ok (clashR h xs ls) := by unfold clashA; rw [hv]; rfl
  have hp := pow_12 k.l12
  rw [hX]
  unfold clashR
  rw [hEe]
  cases hc : canW h (ls.map (travOf h xs)) ls E (allS ls.length) (allS E) with
  | true => exact ⟨0, rfl, by omega, .inl ⟨rfl, rfl⟩⟩
  | false =>
    have hall : allS ls.length = ((2 ^ ls.length - 1 : Nat) : Int) := by unfold allS; rw [hp.2.2]; omega
    obtain ⟨W, hW, hW1, hW2, hWm⟩ := first_min (n := ls.length) k.l12 (b := fun x => !canW h (ls.map (travOf h xs)) ls E x (allS E)) ⟨2 ^ ls.length - 1, by omega, by show (!canW _ _ _ _ _ _) = true; rw [← hall, hc]; rfl⟩
    refine ⟨W, by rw [if_neg (by simp), hW]; rfl, hW1, .inr ⟨rfl, by simpa using hW2, fun q hq hcq => ?_⟩⟩
    rcases hWm q hq (by show (!canW _ _ _ _ _ _) = true; rw [hcq]; rfl) with h1 | ⟨h1, _⟩ <;> omega
theorem drop_min {h : Wd} {xs : List (Int × Int)} {ls : List LkV} {E : Nat} (hv : validW h xs ls = true) (k : WOk h (ls.map (travOf h xs)) ls E) : ∃ D : Nat, replyI (dropA h xs ls) = .tuple #[.int .i64 D, .int .i64 0] ∧ D < 2 ^ ls.length ∧
    canW h (ls.map (travOf h xs)) ls E (allS ls.length - D) (allS E) = true ∧ ∀ q : Nat, q < 2 ^ ls.length → canW h (ls.map (travOf h xs)) ls E (allS ls.length - q) (allS E) = true → popc (D : Int) ≤ popc (q : Int) := by
  have V := validW_iff hv
  have hEe : eyesN h = E := by unfold eyesN; rw [k.eE]; rfl
  have hX : dropA h xs ls = .ok (dropR h xs ls) := by unfold dropA; rw [hv]; rfl
  have hp := pow_12 k.l12
  have hall : allS ls.length = ((2 ^ ls.length - 1 : Nat) : Int) := by unfold allS; rw [hp.2.2]; omega
  have hb : ∀ q : Nat, q < 2 ^ ls.length → butS ls.length (q : Int) = allS ls.length - (q : Int) := fun q hq => by rw [butS_eq k.l12 hq]; rfl
  have h0 : canW h (ls.map (travOf h xs)) ls E 0 (allS E) = true := by
    rw [can_iff k]
    refine ⟨fun _ => 0, fun e he => ?_, fun j hj hs => ?_⟩
    · have := V.hb
      unfold habS
      split <;> simp <;> omega
    · rw [setI_zero (by have := k.l12; omega)] at hs; cases hs
  rw [hX]
  unfold dropR
  rw [hEe]
  obtain ⟨D, hD, hD1, hD2, hDm⟩ := first_min (n := ls.length) k.l12 (b := fun x => canW h (ls.map (travOf h xs)) ls E (butS ls.length x) (allS E)) ⟨2 ^ ls.length - 1, by omega, by
    show canW _ _ _ _ (butS ls.length ((2 ^ ls.length - 1 : Nat) : Int)) _ = true
    rw [hb _ (by omega), ← hall, Int.sub_self]; exact h0⟩
  refine ⟨D, by rw [hD]; rfl, hD1, by rw [← hb D hD1]; exact hD2, fun q hq hc => ?_⟩
  rcases hDm q hq (by show canW _ _ _ _ (butS ls.length (q : Int)) _ = true; rw [hb q hq]; exact hc) with h1 | ⟨h1, _⟩ <;> omega
theorem explain_min {h : Wd} {xs : List (Int × Int)} {ls : List LkV} {E : Nat} (hv : validW h xs ls = true) (k : WOk h (ls.map (travOf h xs)) ls E) : ∃ (X : Nat) (c : Int), replyI (explainA h xs ls) = .tuple #[.int .i64 X, .int .i64 c] ∧ X < 2 ^ E ∧
    (canW h (ls.map (travOf h xs)) ls E (allS ls.length) (allS E) = false ∧ X = 0 ∧ c = 10 ∨ canW h (ls.map (travOf h xs)) ls E (allS ls.length) (allS E) = true ∧ c = 0 ∧ canW h (ls.map (travOf h xs)) ls E (allS ls.length) X = true ∧
      ∀ q : Nat, q < 2 ^ E → canW h (ls.map (travOf h xs)) ls E (allS ls.length) q = true → popc (X : Int) ≤ popc (q : Int)) := by
  have hEe : eyesN h = E := by unfold eyesN; rw [k.eE]; rfl
  have hX : explainA h xs ls = explainR h xs ls := by unfold explainA; rw [hv]; rfl
  have hE4 := k.e4
  have hp := pow_12 (n := E) (by omega)
  rw [hX]
  unfold explainR
  rw [hEe]
  cases hc : canW h (ls.map (travOf h xs)) ls E (allS ls.length) (allS E) with
  | false => exact ⟨0, 10, rfl, by omega, .inl ⟨rfl, rfl, rfl⟩⟩
  | true =>
    have hall : allS E = ((2 ^ E - 1 : Nat) : Int) := by unfold allS; rw [hp.2.2]; omega
    obtain ⟨W, hW, hW1, hW2, hWm⟩ := first_min (n := E) (by omega) (b := fun x => canW h (ls.map (travOf h xs)) ls E (allS ls.length) x) ⟨2 ^ E - 1, by omega, by show canW _ _ _ _ _ _ = true; rw [← hall, hc]⟩
    refine ⟨W, 0, by rw [if_pos rfl, hW]; rfl, hW1, .inr ⟨rfl, rfl, hW2, fun q hq hcq => ?_⟩⟩
    rcases hWm q hq hcq with h1 | ⟨h1, _⟩ <;> omega
/-- Who surely has a habit: bit by bit. -/
theorem sure_bits {h : Wd} {xs : List (Int × Int)} {ls : List LkV} {E : Nat} (hv : validW h xs ls = true) (k : WOk h (ls.map (travOf h xs)) ls E) : ∃ (s c : Int), replyI (sureA h xs ls) = .tuple #[.int .i64 s, .int .i64 c] ∧ (0 ≤ s ∧ s < 16) ∧
    (ovB h (ls.map (travOf h xs)) ls E (allS ls.length) (allS E) 0 = none ∧ s = 0 ∧ c = 10 ∨ ∃ b, ovB h (ls.map (travOf h xs)) ls E (allS ls.length) (allS E) 0 = some b ∧ c = 0 ∧ ∀ e, e < E → s / 2 ^ e % 2 = if sureP b e then 1 else 0) := by
  have hEe : eyesN h = E := by unfold eyesN; rw [k.eE]; rfl
  have hEn : h.eyes.toNat = E := hEe
  have hX : sureA h xs ls = sureR h xs ls := by unfold sureA; rw [hv]; rfl
  have hE4 := k.e4
  have hp16 : (2 : Int) ^ E ≤ 16 := (by decide : ∀ k : Fin 5, (2 : Int) ^ k.val ≤ 16) ⟨E, by omega⟩
  rw [hX]
  unfold sureR ovW
  rw [hEn, hEe]
  cases ho : ovB h (ls.map (travOf h xs)) ls E (allS ls.length) (allS E) 0 with
  | none => exact ⟨0, 10, rfl, by omega, .inl ⟨rfl, rfl, rfl⟩⟩
  | some b =>
    have hr := sure_rng (sureP b) E
    exact ⟨_, 0, rfl, ⟨hr.1, by omega⟩, .inr ⟨b, rfl, rfl, fun e he => bit_of _ E e he⟩⟩
end Ey
end Go.Proofs.Ytcfjakifeihbpaa
