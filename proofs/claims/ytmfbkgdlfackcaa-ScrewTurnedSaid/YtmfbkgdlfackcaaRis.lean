/- A setting that tells nothing: the reference's way, trying all sums, and the package's, by bounds. -/
import Derived.Test.YtmfbkgdlfackcaaMcs
import Derived.Test.YtmfbkgdlfackcaaMon
namespace Go.Proofs.Ytmfbkgdlfackcaa
open Fw Go.RowKit

theorem or_powN {k : Nat} (hk : k < 12) {x : Int} (h : 0 ≤ x ∧ x < 2 ^ k) : bits .or .i64 x (wrap64 (2 ^ k)) = x + 2 ^ k := by
  obtain ⟨n, rfl⟩ : ∃ n : Nat, x = (n : Int) := ⟨x.toNat, by omega⟩
  have hp : wrap64 (2 ^ k) = ((2 ^ k : Nat) : Int) ∧ (2 : Int) ^ k = ((2 ^ k : Nat) : Int) := (by decide +kernel : ∀ k : Fin 12, wrap64 (2 ^ k.val) = ((2 ^ k.val : Nat) : Int) ∧ (2 : Int) ^ k.val = ((2 ^ k.val : Nat) : Int)) ⟨k, hk⟩
  have hp2 : 1 ≤ 2 ^ k ∧ 2 ^ k < 4096 := (by decide +kernel : ∀ k : Fin 12, 1 ≤ 2 ^ k.val ∧ 2 ^ k.val < 4096) ⟨k, hk⟩
  have hn : n < 2 ^ k := by omega
  unfold bits
  rw [hp.1]
  dsimp only
  rw [BitVec.toNat_or, bv_nat (by omega), bv_nat (by omega), Nat.or_comm]
  have := Nat.two_pow_add_eq_or_of_lt hn 1
  rw [Nat.mul_one] at this
  rw [← this, i64_of_nat (by omega)]
  omega
/-- All settings but one. -/
def allO (n k : Nat) : Int := 2 ^ n - 1 - 2 ^ k
set_option maxRecDepth 100000 in
theorem hasB_O {n k j : Nat} (hn : n ≤ 12) (hk : k < n) (hj : j < n) : hasB (allO n k) j = (j != k) := by
  have h : ∀ n : Fin 13, ∀ k : Fin 12, ∀ j : Fin 12, k.val < n.val → j.val < n.val → hasB (allO n.val k.val) j.val = (j.val != k.val) := by decide +kernel
  exact h ⟨n, by omega⟩ ⟨k, by omega⟩ ⟨j, by omega⟩ hk hj
theorem allO_rng {n k : Nat} (hn : n ≤ 12) (hk : k < n) : 0 ≤ allO n k ∧ allO n k < 4096 := by
  have h : ∀ n : Fin 13, ∀ k : Fin 12, k.val < n.val → 0 ≤ allO n.val k.val ∧ allO n.val k.val < 4096 := by decide +kernel
  exact h ⟨n, by omega⟩ ⟨k, by omega⟩ hk
theorem butS_O {n k : Nat} (hn : n ≤ 12) (hk : k < n) : butS n (wrap64 (2 ^ k)) = allO n k := by
  have hp : wrap64 (2 ^ k) = ((2 ^ k : Nat) : Int) ∧ (2 : Int) ^ k = ((2 ^ k : Nat) : Int) := (by decide +kernel : ∀ k : Fin 12, wrap64 (2 ^ k.val) = ((2 ^ k.val : Nat) : Int) ∧ (2 : Int) ^ k.val = ((2 ^ k.val : Nat) : Int)) ⟨k, by omega⟩
  rw [hp.1, butS_eq hn (Nat.pow_lt_pow_right (by decide) hk)]
  unfold allO
  rw [hp.2]

theorem tellsB_split {sLo sHi : Int} {ts : List Tell} (hl : ts.length ≤ 12) {k : Nat} (hk : k < ts.length) (x : Nat → Int) :
    TellsB sLo sHi ts (2 ^ ts.length - 1) x ↔ TellsB sLo sHi ts (allO ts.length k) x ∧ Keeps (ts.getD k dfl) x := by
  constructor
  · rintro ⟨a, b⟩
    exact ⟨⟨a, fun j hj _ => b j hj (hasB_all hl hj)⟩, b k hk (hasB_all hl hk)⟩
  · rintro ⟨⟨a, b⟩, c⟩
    refine ⟨a, fun j hj _ => ?_⟩
    by_cases e : j = k
    · subst e; exact c
    · exact b j hj (by rw [hasB_O hl hk hj]; simpa using e)
theorem fit_def {ts : List Tell} {set s : Int} {i : Nat} {p : Int} : Fit ts set s i p ↔ ((-1099511627776 ≤ p ∧ p ≤ 1099511627776) ∧ -1099511627776 ≤ s - p ∧ s - p ≤ 1099511627776) ∧
    ∀ k, k < ts.length → hasB set k = true → (ts.getD k dfl).2.1 = i → (ts.getD k dfl).2.2.1 ≤ (if (ts.getD k dfl).1 then s - p else p) ∧ (if (ts.getD k dfl).1 then s - p else p) ≤ (ts.getD k dfl).2.2.2 := by
  unfold Fit
  rw [told_iff, told_iff]
  constructor
  · rintro ⟨⟨a, b⟩, c, d⟩
    refine ⟨⟨a, c⟩, fun k hk hb hi => ?_⟩
    cases hr : (ts.getD k dfl).1
    · rw [if_neg (by simp)]; exact b k hk hb hi hr
    · rw [if_pos rfl]; exact d k hk hb hi hr
  · rintro ⟨⟨a, c⟩, f⟩
    refine ⟨⟨a, fun k hk hb hi hr => ?_⟩, c, fun k hk hb hi hr => ?_⟩
    · have := f k hk hb hi; rw [hr, if_neg (by simp)] at this; exact this
    · have := f k hk hb hi; rw [hr, if_pos rfl] at this; exact this
section
variable {ts : List Tell} {sLo sHi : Int} {N : Nat}
/-- The reference's question. -/
def SameP (ts : List Tell) (sLo sHi : Int) (N : Nat) (set : Int) : Prop :=
  sumsE ts set sLo sHi N = sumsE ts (2 ^ ts.length - 1) sLo sHi N ∧
    ∀ i : Nat, i < N → ∀ s, (sumsE ts (2 ^ ts.length - 1) sLo sHi N).1 ≤ s → s ≤ (sumsE ts (2 ^ ts.length - 1) sLo sHi N).2 → placesS ts set i s = placesS ts (2 ^ ts.length - 1) i s
theorem same_says (hf : ∀ t ∈ ts, Fair 131072 t) (hN : ∀ t ∈ ts, 0 ≤ t.2.1 ∧ t.2.1 < N) (h0 : 0 ≤ sLo ∧ sHi ≤ 131072) (hl : ts.length ≤ 12) {k : Nat} (hk : k < ts.length)
    (hc : ¬ (sumsE ts (2 ^ ts.length - 1) sLo sHi N).1 > (sumsE ts (2 ^ ts.length - 1) sLo sHi N).2) :
    SameP ts sLo sHi N (allO ts.length k) ↔ ∀ x, TellsB sLo sHi ts (allO ts.length k) x → Keeps (ts.getD k dfl) x := by
  have hA := sums_yes hf hN h0 hc
  obtain ⟨_, ⟨xl, hxl, _⟩, _⟩ := id hA
  have hcO : ¬ (sumsE ts (allO ts.length k) sLo sHi N).1 > (sumsE ts (allO ts.length k) sLo sHi N).2 := fun h =>
    sums_no hf hN h0 h ⟨xl, ((tellsB_split hl hk xl).1 hxl).1⟩
  have hO := sums_yes hf hN h0 hcO
  have hm := getD_in hk
  obtain ⟨n0, n1⟩ := hN _ hm
  obtain ⟨_, f1, f2⟩ := hf _ hm
  have hi : (((ts.getD k dfl).2.1.toNat : Nat) : Int) = (ts.getD k dfl).2.1 := by omega
  constructor
  · rintro ⟨e1, e2⟩ x hx
    obtain ⟨r1, r2⟩ := hO.1 x hx
    rw [e1] at r1 r2
    have hs := hx.1
    have hpl := e2 (ts.getD k dfl).2.1.toNat (by omega) (x 1 - x 0) r1 r2
    have hsame : ∀ p, Fit ts (allO ts.length k) (x 1 - x 0) (ts.getD k dfl).2.1.toNat p → Fit ts (2 ^ ts.length - 1) (x 1 - x 0) (ts.getD k dfl).2.1.toNat p := fun p hp => by
      have := (places_iff p).2 hp
      rw [hpl] at this
      exact (places_iff p).1 this
    have hkeep : ∀ p, Fit ts (2 ^ ts.length - 1) (x 1 - x 0) (ts.getD k dfl).2.1.toNat p → (ts.getD k dfl).2.2.1 ≤ (if (ts.getD k dfl).1 then x 1 - x 0 - p else p) ∧ (if (ts.getD k dfl).1 then x 1 - x 0 - p else p) ≤ (ts.getD k dfl).2.2.2 := fun p hp =>
      (fit_def.1 hp).2 k hk (hasB_all hl hk) hi.symm
    by_cases hsn : Seen ts (allO ts.length k) (ts.getD k dfl).2.1.toNat
    · obtain ⟨a, b⟩ := place_fits hf h0 hx hsn
      have := hkeep _ (hsame (x (2 + (ts.getD k dfl).2.1.toNat) - x 0) ⟨a, by omega⟩)
      unfold Keeps
      split
      · rename_i hr; rw [if_pos hr] at this; omega
      · rename_i hr; rw [if_neg hr] at this; omega
    · exfalso
      have hfar : ∀ p : Int, -500000 ≤ p ∧ p ≤ 500000 → Fit ts (allO ts.length k) (x 1 - x 0) (ts.getD k dfl).2.1.toNat p := fun p hp =>
        fit_def.2 ⟨⟨by omega, by omega⟩, fun j h1 h2 h3 => absurd ⟨j, h1, h2, h3⟩ hsn⟩
      have a := hkeep _ (hsame _ (hfar 500000 (by omega)))
      have b := hkeep _ (hsame _ (hfar (-500000) (by omega)))
      split at a
      · rename_i hr; rw [if_pos hr] at b; omega
      · rename_i hr; rw [if_neg hr] at b; omega
  · intro hall
    have heq : ∀ x, TellsB sLo sHi ts (allO ts.length k) x ↔ TellsB sLo sHi ts (2 ^ ts.length - 1) x := fun x =>
      ⟨fun h => (tellsB_split hl hk x).2 ⟨h, hall x h⟩, fun h => ((tellsB_split hl hk x).1 h).1⟩
    have hu := (Ext.congr heq hO).unique hA
    refine ⟨Prod.ext hu.1 hu.2, fun i hiN s h1 h2 => ?_⟩
    -- a truth with this sum
    have hsx : ∃ x, TellsB sLo sHi ts (2 ^ ts.length - 1) x ∧ x 1 - x 0 = s := by
      refine (sums_iff hf hN h0 s).1 ?_
      unfold sumsE at h1 h2
      cases hq : sumsTo ts (2 ^ ts.length - 1) sLo sHi N with
      | none => rw [hq] at h1 h2; simp at h1 h2; omega
      | some o => rw [hq] at h1 h2; exact ⟨o, rfl, h1, h2⟩
    obtain ⟨x, hx, ex⟩ := hsx
    have hs : sLo ≤ s ∧ s ≤ sHi := by have := hx.1; omega
    have hxs : ∃ x, TellsB s s ts (2 ^ ts.length - 1) x := ⟨x, (tellsB_sum hs x).2 ⟨hx, ex⟩⟩
    obtain ⟨p, hp⟩ := fits_of (set := 2 ^ ts.length - 1) hf (by omega) hxs
    have hsub : ∀ q j, Fit ts (2 ^ ts.length - 1) s j q → Fit ts (allO ts.length k) s j q := fun q j hq =>
      fit_def.2 ⟨(fit_def.1 hq).1, fun a h1 _ h3 => (fit_def.1 hq).2 a h1 (hasB_all hl h1) h3⟩
    have hsup : ∀ q, Fit ts (allO ts.length k) s i q → Fit ts (2 ^ ts.length - 1) s i q := fun q hq => by
      refine fit_def.2 ⟨(fit_def.1 hq).1, fun a h1 _ h3 => ?_⟩
      by_cases e : a = k
      · subst e
        have hT : TellsB sLo sHi ts (allO ts.length a) (mk s (fun j => if j = i then q else p j)) := mk_tells hN hs _ (fun j _ => by
          (try dsimp only)
          split
          · rename_i e; rw [e]; exact hq
          · exact hsub _ _ (hp j))
        have hK := hall _ hT
        have e2 : (ts.getD a dfl).2.1.toNat = i := by omega
        unfold Keeps at hK
        rw [e2, mk_place, mk_zero, mk_sum, if_pos rfl] at hK
        split at hK
        · rename_i hr; rw [if_pos hr]; exact hK
        · rename_i hr; rw [if_neg hr]; omega
      · exact (fit_def.1 hq).2 a h1 (by rw [hasB_O hl hk h1]; simpa using e) h3
    have hne := (places_iff (p i)).2 (hp i)
    have hne2 := (places_iff (p i)).2 (hsub _ _ (hp i))
    have m1 := (places_iff (ts := ts) (set := 2 ^ ts.length - 1) (s := s) (j := i) (placesS ts (allO ts.length k) i s).1).2 (hsup _ ((places_iff _).1 (by omega)))
    have m2 := (places_iff (ts := ts) (set := 2 ^ ts.length - 1) (s := s) (j := i) (placesS ts (allO ts.length k) i s).2).2 (hsup _ ((places_iff _).1 (by omega)))
    have m3 := (places_iff (ts := ts) (set := allO ts.length k) (s := s) (j := i) (placesS ts (2 ^ ts.length - 1) i s).1).2 (hsub _ _ ((places_iff _).1 (by omega)))
    have m4 := (places_iff (ts := ts) (set := allO ts.length k) (s := s) (j := i) (placesS ts (2 ^ ts.length - 1) i s).2).2 (hsub _ _ ((places_iff _).1 (by omega)))
    exact Prod.ext (by omega) (by omega)
/-- The package's question. -/
theorem tell_says (hf : ∀ t ∈ ts, Fair 131072 t) (h0 : 0 ≤ sLo ∧ sLo ≤ sHi ∧ sHi ≤ 131072) (hl : ts.length ≤ 12) {k : Nat} (hk : k < ts.length)
    (hx : ∃ x, TellsB sLo sHi ts (allO ts.length k) x) :
    tellB (otherS sLo sHi ts k) (ts.getD k dfl) = true ↔ ∀ x, TellsB sLo sHi ts (allO ts.length k) x → Keeps (ts.getD k dfl) x := by
  have hr := allO_rng hl hk
  have hm := getD_in hk
  obtain ⟨⟨n0, n1⟩, f1, f2⟩ := hf _ hm
  unfold otherS
  rw [butS_O hl hk]
  have hb : (boundsS sLo sHi ts (allO ts.length k)).1 = true := by
    cases h : (boundsS sLo sHi ts (allO ts.length k)).1
    · obtain ⟨x, hx⟩ := hx
      exact absurd ⟨x, (tells_B hl hr x).2 hx⟩ (bounds_no (B := 131072) ⟨by omega, by decide⟩ (by omega) hf _ h)
    · rfl
  obtain ⟨sh, sol, ext, ⟨g0, g1⟩, fk⟩ := bounds_yes (B := 131072) ⟨by omega, by decide⟩ (by omega) hf _ hb
  have ext' := fun i j hi hj h1 h2 => Ext.congr (fun x => tells_B hl hr x) (ext i j hi hj h1 h2)
  clear ext
  obtain ⟨im, him⟩ : ∃ im : Nat, (ts.getD k dfl).2.1.toNat = im := ⟨_, rfl⟩
  have hiI : (ts.getD k dfl).2.1 = (im : Int) := by omega
  have him6 : im < 6 := by omega
  have hF : ∀ z : Int, z = F → wrap64 (-z) = -1073741824 := fun z hz => by rw [hz]; decide +kernel
  -- what holds of the bounds of the image and one of the other two points
  have core : ∀ i j : Nat, i < 8 → j < 8 → (i = 0 ∧ j = 2 + im ∨ i = 2 + im ∧ j = 1) →
      (holdB (ts.getD k dfl).2.2.1 (ts.getD k dfl).2.2.2 (wrap64 (-(ent (boundsS sLo sHi ts (allO ts.length k)).2 j i))) (ent (boundsS sLo sHi ts (allO ts.length k)).2 i j) = true ↔
        ∀ x, TellsB sLo sHi ts (allO ts.length k) x → (ts.getD k dfl).2.2.1 ≤ x j - x i ∧ x j - x i ≤ (ts.getD k dfl).2.2.2) := by
    intro i j hi hj hij
    unfold holdB
    rw [Bool.and_eq_true, Bool.and_eq_true, decide_eq_true_eq, decide_eq_true_eq, decide_eq_true_eq]
    constructor
    · rintro ⟨⟨a, b⟩, c⟩ x hx
      have e1 : ent (boundsS sLo sHi ts (allO ts.length k)).2 i j ≠ F := fun e => by rw [e] at c; have : F = 1073741824 := rfl; omega
      have e2 : ent (boundsS sLo sHi ts (allO ts.length k)).2 j i ≠ F := fun e => by rw [hF _ e] at a; omega
      have := (ext' i j hi hj e1 e2).1 x hx
      omega
    · intro hall
      have hsn : Seen ts (allO ts.length k) im := by
        by_cases hsn : Seen ts (allO ts.length k) im
        · exact hsn
        · exfalso
          obtain ⟨x, hx1, hx2⟩ := hx
          obtain ⟨y, hy⟩ : ∃ y : Nat → Int, ∀ a, y a = if a = 2 + im then x 0 + 2000000 else x a := ⟨_, fun _ => rfl⟩
          have y0 : y 0 = x 0 := by rw [hy, if_neg (by omega)]
          have y1 : y 1 = x 1 := by rw [hy, if_neg (by omega)]
          have y2 : y (2 + im) = x 0 + 2000000 := by rw [hy, if_pos rfl]
          have hT : TellsB sLo sHi ts (allO ts.length k) y := by
            refine ⟨by rw [y0, y1]; exact hx1, fun a ha hb => ?_⟩
            have hne : ¬ (ts.getD a dfl).2.1 = (im : Int) := fun e => hsn ⟨a, ha, hb, e⟩
            have ha0 := (hf _ (getD_in ha)).1
            have e3 : y (2 + (ts.getD a dfl).2.1.toNat) = x (2 + (ts.getD a dfl).2.1.toNat) := by rw [hy, if_neg (by omega)]
            have := hx2 a ha hb
            unfold Keeps at *
            rw [e3, y0, y1]
            exact this
          have := hall _ hT
          rcases hij with ⟨rfl, rfl⟩ | ⟨rfl, rfl⟩
          · rw [y0, y2] at this; omega
          · rw [y1, y2] at this; omega
      obtain ⟨a, ha, hb', e⟩ := hsn
      have hfin := fk a ha (by rw [setI_has hr (by omega)]; exact hb')
      have e3 : (ts.getD a dfl).2.1.toNat = im := by omega
      rw [e3] at hfin
      have hfin2 : ent (boundsS sLo sHi ts (allO ts.length k)).2 i j ≠ F ∧ ent (boundsS sLo sHi ts (allO ts.length k)).2 j i ≠ F := by
        rcases hij with ⟨rfl, rfl⟩ | ⟨rfl, rfl⟩
        · exact hfin 0 (by omega)
        · exact ⟨(hfin 1 (by omega)).2, (hfin 1 (by omega)).1⟩
      obtain ⟨_, ⟨x, hx, ex⟩, y, hy, ey⟩ := ext' i j hi hj hfin2.1 hfin2.2
      have h1 := hall x hx
      have h2 := hall y hy
      have h3 := (ext' i j hi hj hfin2.1 hfin2.2).1 x hx
      omega
  unfold tellB
  rw [him]
  cases hr2 : (ts.getD k dfl).1
  · rw [if_neg (by simp)]
    refine (core 0 (2 + im) (by omega) (by omega) (.inl ⟨rfl, rfl⟩)).trans ⟨fun h x hx => ?_, fun h x hx => ?_⟩
    · unfold Keeps; rw [hr2, if_neg (by simp), him]; exact h x hx
    · have := h x hx; unfold Keeps at this; rw [hr2, if_neg (by simp), him] at this; exact this
  · rw [if_pos rfl]
    refine (core (2 + im) 1 (by omega) (by omega) (.inr ⟨rfl, rfl⟩)).trans ⟨fun h x hx => ?_, fun h x hx => ?_⟩
    · unfold Keeps; rw [hr2, if_pos rfl, him]; exact h x hx
    · have := h x hx; unfold Keeps at this; rw [hr2, if_pos rfl, him] at this; exact this
end
end Go.Proofs.Ytmfbkgdlfackcaa
