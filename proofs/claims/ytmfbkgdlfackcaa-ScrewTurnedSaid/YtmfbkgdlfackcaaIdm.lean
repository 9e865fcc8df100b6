/- ScrewIdles: what is the same without a setting that tells nothing, and what is not without another one. -/
import Derived.Test.YtmfbkgdlfackcaaIdr
import Derived.Test.YtmfbkgdlfackcaaCmm
import Derived.Test.YtmfbkgdlfackcaaPam
import Derived.Test.YtmfbkgdlfackcaaRon
namespace Go.Proofs.Ytmfbkgdlfackcaa
open Fw Go.RowKit

section
variable {ts : List Tell} {sLo sHi : Int} {N : Nat}
/-- What others say of a setting's image they say by settings of it. -/
theorem keeps_seen (hf : ∀ t ∈ ts, Fair 131072 t) (h0 : 0 ≤ sLo ∧ sHi ≤ 131072) {set : Int} {t : Tell} (ht : Fair 131072 t) {im : Nat} (him : t.2.1 = (im : Int)) (hx : ∃ x, TellsB sLo sHi ts set x)
    (hall : ∀ x, TellsB sLo sHi ts set x → Keeps t x) : Seen ts set im := by
  by_cases hsn : Seen ts set im
  · exact hsn
  · exfalso
    obtain ⟨x, hx1, hx2⟩ := hx
    obtain ⟨y, hy⟩ : ∃ y : Nat → Int, ∀ a, y a = if a = 2 + im then x 0 + 2000000 else x a := ⟨_, fun _ => rfl⟩
    have y0 : y 0 = x 0 := by rw [hy, if_neg (by omega)]
    have y1 : y 1 = x 1 := by rw [hy, if_neg (by omega)]
    have y2 : y (2 + im) = x 0 + 2000000 := by rw [hy, if_pos rfl]
    have hT : TellsB sLo sHi ts set y := by
      refine ⟨by rw [y0, y1]; exact hx1, fun a ha hb => ?_⟩
      have hne : ¬ (ts.getD a dfl).2.1 = (im : Int) := fun e => hsn ⟨a, ha, hb, e⟩
      have ha0 := (hf _ (getD_in ha)).1
      have e3 : y (2 + (ts.getD a dfl).2.1.toNat) = x (2 + (ts.getD a dfl).2.1.toNat) := by rw [hy, if_neg (by omega)]
      have := hx2 a ha hb
      unfold Keeps at *
      rw [e3, y0, y1]
      exact this
    have hk := keeps_at (hall y hT) him rfl
    rw [y0, y1, y2] at hk
    obtain ⟨_, f1, f2⟩ := ht
    split at hk <;> omega
/-- If the places are the same with the least and with the greatest sum, the others say what the setting does. -/
theorem ends_tell (hf : ∀ t ∈ ts, Fair 131072 t) (h0 : 0 ≤ sLo ∧ sHi ≤ 131072) (hl : ts.length ≤ 12) {k : Nat} (hk : k < ts.length) {im : Nat} (him : (ts.getD k dfl).2.1 = (im : Int)) {lo hi : Int}
    (n0 : (placesS ts (allO ts.length k) im lo).1 ≤ (placesS ts (allO ts.length k) im lo).2) (n1 : (placesS ts (allO ts.length k) im hi).1 ≤ (placesS ts (allO ts.length k) im hi).2)
    (e0 : placesS ts (allO ts.length k) im lo = placesS ts (2 ^ ts.length - 1) im lo) (e1 : placesS ts (allO ts.length k) im hi = placesS ts (2 ^ ts.length - 1) im hi)
    (hsn : Seen ts (allO ts.length k) im) {x : Nat → Int} (hx : TellsB sLo sHi ts (allO ts.length k) x) (h1 : lo ≤ x 1 - x 0) (h2 : x 1 - x 0 ≤ hi) : Keeps (ts.getD k dfl) x := by
  obtain ⟨a, b⟩ := place_fits hf h0 hx hsn
  have key : ∀ s q, placesS ts (allO ts.length k) im s = placesS ts (2 ^ ts.length - 1) im s → (placesS ts (allO ts.length k) im s).1 ≤ q → q ≤ (placesS ts (allO ts.length k) im s).2 →
      (ts.getD k dfl).2.2.1 ≤ (if (ts.getD k dfl).1 then s - q else q) ∧ (if (ts.getD k dfl).1 then s - q else q) ≤ (ts.getD k dfl).2.2.2 := fun s q he c d => by
    rw [he] at c d
    exact (fit_def.1 ((places_iff q).1 ⟨c, d⟩)).2 k hk (hasB_all hl hk) him
  have k0 := key lo _ e0 (Int.le_refl _) n0
  have k1 := key lo _ e0 n0 (Int.le_refl _)
  have k2 := key hi _ e1 (Int.le_refl _) n1
  have k3 := key hi _ e1 n1 (Int.le_refl _)
  have e : (ts.getD k dfl).2.1.toNat = im := by omega
  unfold placesS mxI mnI at k0 k1 k2 k3
  dsimp only at k0 k1 k2 k3
  generalize toldTo ts (allO ts.length k) im false ts.length = A at *
  generalize toldTo ts (allO ts.length k) im true ts.length = B at *
  unfold Keeps
  rw [e]
  cases hr : (ts.getD k dfl).1
  · rw [hr, if_neg (by simp)] at k0 k1 k2 k3
    rw [if_neg (by simp)]
    clear key e0 e1 n0 n1
    (repeat' split at k0) <;> (repeat' split at k3) <;> omega
  · rw [hr, if_pos rfl] at k0 k1 k2 k3
    rw [if_pos rfl]
    clear key e0 e1 n0 n1
    (repeat' split at k1) <;> (repeat' split at k2) <;> omega
end
/-! The bits of what is idle, and of what was measured once. -/
theorem hasB_add {x : Int} {k j : Nat} (hx : 0 ≤ x ∧ x < 2 ^ k) (hj : j ≤ k) : hasB (x + 2 ^ k) j = if j = k then true else hasB x j := by
  obtain ⟨n, rfl⟩ : ∃ n : Nat, x = (n : Int) := ⟨x.toNat, by omega⟩
  have e : (n : Int) + 2 ^ k = ((2 ^ k + n : Nat) : Int) := by
    have : ((2 ^ k : Nat) : Int) = (2 : Int) ^ k := by simp
    omega
  have hn : n < 2 ^ k := by
    have : ((2 ^ k : Nat) : Int) = (2 : Int) ^ k := by simp
    omega
  rw [e, hasB_test, hasB_test]
  by_cases h : j = k
  · subst h
    rw [if_pos rfl, Nat.testBit_two_pow_add_eq, Nat.testBit_lt_two_pow hn]; rfl
  · rw [if_neg h, Nat.testBit_two_pow_add_gt (by omega)]
theorem hasB_big {x : Int} {k : Nat} (hx : 0 ≤ x ∧ x < 2 ^ k) : hasB x k = false := by
  obtain ⟨n, rfl⟩ : ∃ n : Nat, x = (n : Int) := ⟨x.toNat, by omega⟩
  have hn : n < 2 ^ k := by
    have : ((2 ^ k : Nat) : Int) = (2 : Int) ^ k := by simp
    omega
  rw [hasB_test, Nat.testBit_lt_two_pow hn]
theorem idle_bit (sLo sHi : Int) (ts : List Tell) : ∀ n, n ≤ 12 → ∀ k, k < n → hasB (idleS sLo sHi ts n) k = tellB (otherS sLo sHi ts k) (ts.getD k dfl)
  | 0, _, k, hk => by omega
  | n + 1, hn, k, hk => by
    obtain ⟨hr, hs⟩ := idleS_rng sLo sHi ts n (by omega)
    have ih := idle_bit sLo sHi ts n (by omega)
    rw [hs (by omega)]
    by_cases hkn : k = n
    · subst hkn
      cases tellB (otherS sLo sHi ts k) (ts.getD k dfl)
      · rw [if_neg (by simp)]; exact hasB_big hr
      · rw [if_pos rfl, hasB_add hr (Nat.le_refl _), if_pos rfl]
    · split
      · rw [hasB_add hr (by omega), if_neg hkn]; exact ih k (by omega)
      · exact ih k (by omega)
theorem once_bit (ss : List Sett) : ∀ n, ∀ k, k < n → hasB (onceE ss n) k = (ss.any (upB k) != ss.any (rvB k))
  | 0, k, hk => by omega
  | n + 1, k, hk => by
    have hr := onceE_rng ss n
    have ih := once_bit ss n
    rw [onceE]
    by_cases hkn : k = n
    · subst hkn
      cases h : (ss.any (upB k) != ss.any (rvB k))
      · rw [if_neg (by simp)]; exact hasB_big hr
      · rw [if_pos rfl, hasB_add hr (Nat.le_refl _), if_pos rfl]
    · split
      · rw [hasB_add hr (by omega), if_neg hkn]; exact ih k (by omega)
      · exact ih k (by omega)
section
variable {h : Hd} {xs : List (Int × Int)} {ss : List Sett}
/-- Which images the settings of a set tell of. -/
theorem part_seen {xs : List (Int × Int)} {a b : Int} {set : Int} {im : Int} : hasC im (cntsOf (partS ss set)) = true ↔ Seen (tellsOf xs a b ss) set im := by
  have hl : (tellsOf xs a b ss).length = ss.length := by simp [tellsOf]
  rw [hasC_cnts, List.any_eq_true]
  constructor
  · rintro ⟨s, hs, he⟩
    obtain ⟨k, hk, hb, rfl⟩ := part_mem.1 hs
    refine ⟨k, by omega, hb, ?_⟩
    rw [tells_get hk]
    have : im = (ss.getD k (0, 0, false)).1 := by simpa using he
    rw [this]; rfl
  · rintro ⟨k, hk, hb, he⟩
    rw [hl] at hk
    rw [tells_get hk] at he
    exact ⟨_, part_mem.2 ⟨k, hk, hb, rfl⟩, by simp only [beq_iff_eq]; exact he.symm⟩
theorem all_seen (hv : validH h xs ss = true) {im : Int} : hasC im (cntsOf ss) = true ↔ Seen (tellsOf xs h.eLo h.eHi ss) (allS ss) im := by
  obtain ⟨a, b, c, d, e, f, g⟩ := valid_has hv
  refine ⟨seen_of hv, ?_⟩
  rintro ⟨k, hk, hb, he⟩
  rw [len_tells] at hk
  rw [tells_get hk] at he
  rw [hasC_cnts, List.any_eq_true]
  exact ⟨ss.getD k (0, 0, false), by simp [List.getD, hk], by simp only [beq_iff_eq]; exact he.symm⟩
/-- Without a setting that tells nothing all is the same. -/
theorem idle_same3 (hv : validH h xs ss = true) (hs : ¬ (sumsS h xs ss (allS ss)).1 > (sumsS h xs ss (allS ss)).2) {k : Nat} (hk : k < ss.length)
    (ht : tellB (otherS h.sLo h.sHi (tellsOf xs h.eLo h.eHi ss) k) ((tellsOf xs h.eLo h.eHi ss).getD k dfl) = true) (sa : Option Addr) (n cap : Nat) :
    sumA (partH h sa n cap) xs (partS ss (allO ss.length k)) = sumA h xs ss ∧ (∀ im, placeA (partH h sa n cap) xs (partS ss (allO ss.length k)) im = placeA h xs ss im) ∧
      ∀ a b, apartA (partH h sa n cap) xs (partS ss (allO ss.length k)) a b = apartA h xs ss a b := by
  obtain ⟨va, vb, vc, vd, ve, vf, vg⟩ := valid_has hv
  have hl := len_tells h xs ss
  have hpv := part_valid hv (allO ss.length k) sa n cap
  have hE := ref_sumsB hv hs
  obtain ⟨_, ⟨x0, hx0, _⟩, _⟩ := id hE
  have hsp := fun x => tellsB_split (sLo := h.sLo) (sHi := h.sHi) (ts := tellsOf xs h.eLo h.eHi ss) (by omega) (k := k) (by omega) x
  rw [hl] at hsp
  have hO : ∃ x, TellsB h.sLo h.sHi (tellsOf xs h.eLo h.eHi ss) (allO ss.length k) x := ⟨x0, ((hsp x0).1 hx0).1⟩
  have hall := tell_says (sLo := h.sLo) (sHi := h.sHi) (fair_of hv) (by omega) (by omega) (k := k) (by omega) (by rw [hl]; exact hO)
  rw [hl] at hall
  have hkeep := hall.1 ht
  have heq : ∀ x, Tru h.sLo h.sHi (tellsOf xs h.eLo h.eHi (partS ss (allO ss.length k))) x ↔ Tru h.sLo h.sHi (tellsOf xs h.eLo h.eHi ss) x := fun x => by
    rw [part_tru]
    have := tellsB_all (sLo := h.sLo) (sHi := h.sHi) (ts := tellsOf xs h.eLo h.eHi ss) (by omega) x
    rw [hl] at this
    rw [← this, hsp x]
    exact ⟨fun h => ⟨h, hkeep x h⟩, fun h => h.1⟩
  have hX : ∃ x, Tru h.sLo h.sHi (tellsOf xs h.eLo h.eHi ss) x := by
    have := ref_sums hv hs
    obtain ⟨_, ⟨x, hx, _⟩, _⟩ := this
    exact ⟨x, hx⟩
  have hXp : ∃ x, Tru h.sLo h.sHi (tellsOf xs h.eLo h.eHi (partS ss (allO ss.length k))) x := by
    obtain ⟨x, hx⟩ := hX; exact ⟨x, (heq x).2 hx⟩
  have hseen : ∀ im, hasC im (cntsOf (partS ss (allO ss.length k))) = hasC im (cntsOf ss) := fun im => by
    have hiff : hasC im (cntsOf (partS ss (allO ss.length k))) = true ↔ hasC im (cntsOf ss) = true := by
      rw [part_seen (xs := xs) (a := h.eLo) (b := h.eHi), all_seen hv]
      constructor
      · rintro ⟨j, j1, j2, j3⟩
        exact ⟨j, j1, hasB_all vf (by omega), j3⟩
      · rintro ⟨j, j1, j2, j3⟩
        by_cases e : j = k
        · subst e
          have hf := fair_of hv _ (getD_in j1)
          obtain ⟨i, hi⟩ : ∃ i : Nat, im = (i : Int) := ⟨im.toNat, by have := hf.1.1; omega⟩
          subst hi
          exact keeps_seen (fair_of hv) (by omega) hf j3 hO hkeep
        · exact ⟨j, j1, by rw [hasB_O vf hk (by omega)]; simpa using e, j3⟩
    cases h1 : hasC im (cntsOf (partS ss (allO ss.length k))) <;> cases h2 : hasC im (cntsOf ss)
    · rfl
    · rw [hiff.2 h2] at h1; cases h1
    · rw [hiff.1 h1] at h2; cases h2
    · rfl
  refine ⟨?_, fun im => ?_, fun a b => ?_⟩
  · obtain ⟨l1, u1, e1, x1⟩ := sum_ok hv hX
    obtain ⟨l2, u2, e2, x2⟩ := sum_ok hpv hXp
    obtain ⟨rfl, rfl⟩ := (Ext.congr heq x2).unique x1
    rw [e1, e2]
  · cases hi : isImg h.images im
    · rw [place_range hv hi, place_range hpv hi]
    · cases hc : hasC im (cntsOf ss)
      · rw [place_doubt hv hi hX hc, place_doubt hpv hi hXp (by rw [hseen]; exact hc)]
      · obtain ⟨l1, u1, e1, x1⟩ := place_ok hv hi hX hc
        obtain ⟨l2, u2, e2, x2⟩ := place_ok hpv hi hXp (by rw [hseen]; exact hc)
        obtain ⟨rfl, rfl⟩ := (Ext.congr heq x2).unique x1
        rw [e1, e2]
  · by_cases hi : isImg h.images a = true ∧ isImg h.images b = true
    · obtain ⟨ha, hb⟩ := hi
      by_cases hc : a = b ∨ (hasC a (cntsOf ss) = true ∧ hasC b (cntsOf ss) = true)
      · obtain ⟨l1, u1, e1, x1⟩ := apart_ok hv ha hb hX hc
        obtain ⟨l2, u2, e2, x2⟩ := apart_ok hpv ha hb hXp (by rw [hseen, hseen]; exact hc)
        obtain ⟨rfl, rfl⟩ := (Ext.congr heq x2).unique x1
        rw [e1, e2]
      · have hne : a ≠ b := fun e => hc (.inl e)
        have hc2 : ¬ (hasC a (cntsOf ss) = true ∧ hasC b (cntsOf ss) = true) := fun e => hc (.inr e)
        rw [apart_doubt hv ha hb hX hne hc2, apart_doubt hpv ha hb hXp hne (by rw [hseen, hseen]; exact hc2)]
    · rw [apart_range hv hi, apart_range hpv hi]
end
end Go.Proofs.Ytmfbkgdlfackcaa
