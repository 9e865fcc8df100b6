/- What the reference answers, in words of truths: it is what the package answers. -/
import Derived.Test.YtmfbkgdlfackcaaRap
import Derived.Test.YtmfbkgdlfackcaaMsm
namespace Go.Proofs.Ytmfbkgdlfackcaa
open Fw Go.RowKit

/-- Some setting of a set tells of an image. -/
def Seen (ts : List Tell) (set im : Int) : Prop := ∃ k, k < ts.length ∧ hasB set k = true ∧ (ts.getD k dfl).2.1 = im
/-- Numbers are as the sum, and the settings of a set, tell. -/
def TellsB (sLo sHi : Int) (ts : List Tell) (set : Int) (x : Nat → Int) : Prop :=
  (sLo ≤ x 1 - x 0 ∧ x 1 - x 0 ≤ sHi) ∧ ∀ k, k < ts.length → hasB set k = true → Keeps (ts.getD k dfl) x

theorem mxI_le {a b v : Int} : mxI a b ≤ v ↔ a ≤ v ∧ b ≤ v := by unfold mxI; split <;> omega
theorem le_mnI {a b v : Int} : v ≤ mnI a b ↔ v ≤ a ∧ v ≤ b := by unfold mnI; split <;> omega
theorem told_iff (ts : List Tell) (set im : Int) (rv : Bool) (v : Int) : ∀ n, ((toldTo ts set im rv n).1 ≤ v ∧ v ≤ (toldTo ts set im rv n).2) ↔
    ((-1099511627776 ≤ v ∧ v ≤ 1099511627776) ∧ ∀ k, k < n → hasB set k = true → (ts.getD k dfl).2.1 = im → (ts.getD k dfl).1 = rv → (ts.getD k dfl).2.2.1 ≤ v ∧ v ≤ (ts.getD k dfl).2.2.2)
  | 0 => by simp [toldTo]
  | n + 1 => by
    have ih := told_iff ts set im rv v n
    rw [toldTo]
    split
    · rename_i hc
      simp only [Bool.and_eq_true, beq_iff_eq] at hc
      obtain ⟨⟨h1, h2⟩, h3⟩ := hc
      dsimp only
      rw [mxI_le, le_mnI]
      constructor
      · rintro ⟨⟨a, b⟩, c, d⟩
        obtain ⟨e, f⟩ := ih.1 ⟨a, c⟩
        refine ⟨e, fun k hk => ?_⟩
        by_cases hkn : k = n
        · subst hkn; exact fun _ _ _ => ⟨b, d⟩
        · exact f k (by omega)
      · rintro ⟨e, f⟩
        obtain ⟨a, c⟩ := ih.2 ⟨e, fun k hk => f k (by omega)⟩
        obtain ⟨b, d⟩ := f n (by omega) h1 h2 h3
        exact ⟨⟨a, b⟩, c, d⟩
    · rename_i hc
      rw [ih]
      constructor
      · rintro ⟨e, f⟩
        refine ⟨e, fun k hk => ?_⟩
        by_cases hkn : k = n
        · subst hkn; intro a b c; exact absurd (by rw [a, b, c]; simp) hc
        · exact f k (by omega)
      · rintro ⟨e, f⟩; exact ⟨e, fun k hk => f k (by omega)⟩

section
variable {ts : List Tell} {set sLo sHi : Int} {N : Nat}
theorem getD_in {k : Nat} (hk : k < ts.length) : ts.getD k dfl ∈ ts := by simp [List.getD, hk]
/-- The place of an image fits what is told of it. -/
theorem place_fits (hf : ∀ t ∈ ts, Fair 131072 t) (h0 : 0 ≤ sLo ∧ sHi ≤ 131072) {x : Nat → Int} (hx : TellsB sLo sHi ts set x) {j : Nat} (hs : Seen ts set j) :
    ((toldTo ts set j false ts.length).1 ≤ x (2 + j) - x 0 ∧ x (2 + j) - x 0 ≤ (toldTo ts set j false ts.length).2) ∧ (toldTo ts set j true ts.length).1 ≤ x 1 - x (2 + j) ∧ x 1 - x (2 + j) ≤ (toldTo ts set j true ts.length).2 := by
  obtain ⟨⟨s1, s2⟩, hk⟩ := hx
  have hb : -262144 ≤ x (2 + j) - x 0 ∧ x (2 + j) - x 0 ≤ 262144 := by
    obtain ⟨k, h1, h2, h3⟩ := hs
    have hK := hk k h1 h2
    obtain ⟨_, f1, f2⟩ := hf _ (getD_in h1)
    have e : (ts.getD k dfl).2.1.toNat = j := by omega
    unfold Keeps at hK
    rw [e] at hK
    split at hK <;> omega
  constructor
  · refine (told_iff ts set j false _ ts.length).2 ⟨by omega, fun k h1 h2 h3 h4 => ?_⟩
    have hK := hk k h1 h2
    have e : (ts.getD k dfl).2.1.toNat = j := by omega
    unfold Keeps at hK
    rw [e, h4, if_neg (by simp)] at hK
    exact hK
  · refine (told_iff ts set j true _ ts.length).2 ⟨by omega, fun k h1 h2 h3 h4 => ?_⟩
    have hK := hk k h1 h2
    have e : (ts.getD k dfl).2.1.toNat = j := by omega
    unfold Keeps at hK
    rw [e, h4, if_pos rfl] at hK
    exact hK
/-- A place of an image fits the sum. -/
def Fit (ts : List Tell) (set : Int) (s : Int) (j : Nat) (p : Int) : Prop :=
  ((toldTo ts set j false ts.length).1 ≤ p ∧ p ≤ (toldTo ts set j false ts.length).2) ∧ (toldTo ts set j true ts.length).1 ≤ s - p ∧ s - p ≤ (toldTo ts set j true ts.length).2
theorem place_some (hf : ∀ t ∈ ts, Fair 131072 t) (h0 : 0 ≤ sLo ∧ sHi ≤ 131072) {x : Nat → Int} (hx : TellsB sLo sHi ts set x) (j : Nat) : ∃ p, Fit ts set (x 1 - x 0) j p := by
  by_cases hs : Seen ts set j
  · obtain ⟨a, b⟩ := place_fits hf h0 hx hs
    exact ⟨x (2 + j) - x 0, a, by omega⟩
  · obtain ⟨s1, s2⟩ := hx.1
    refine ⟨0, (told_iff ts set j false _ ts.length).2 ⟨by omega, fun k h1 h2 h3 h4 => absurd ⟨k, h1, h2, h3⟩ hs⟩, (told_iff ts set j true _ ts.length).2 ⟨by omega, fun k h1 h2 h3 h4 => absurd ⟨k, h1, h2, h3⟩ hs⟩⟩
/-- The numbers that a sum and places make. -/
def mk (s : Int) (p : Nat → Int) : Nat → Int := fun i => if i = 0 then 0 else if i = 1 then s else p (i - 2)
theorem mk_place (s : Int) (p : Nat → Int) (j : Nat) : mk s p (2 + j) = p j := by
  unfold mk; rw [if_neg (by omega), if_neg (by omega)]; congr 1; omega
theorem mk_zero (s : Int) (p : Nat → Int) : mk s p 0 = 0 := rfl
theorem mk_sum (s : Int) (p : Nat → Int) : mk s p 1 = s := rfl
theorem mk_tells (hN : ∀ t ∈ ts, 0 ≤ t.2.1 ∧ t.2.1 < N) {s : Int} (hs : sLo ≤ s ∧ s ≤ sHi) (p : Nat → Int) (hp : ∀ j, j < N → Fit ts set s j (p j)) : TellsB sLo sHi ts set (mk s p) := by
  refine ⟨by rw [mk_zero, mk_sum]; omega, fun k hk hb => ?_⟩
  obtain ⟨n0, n1⟩ := hN _ (getD_in hk)
  have e : (((ts.getD k dfl).2.1.toNat : Nat) : Int) = (ts.getD k dfl).2.1 := by omega
  obtain ⟨fa, fb⟩ := hp (ts.getD k dfl).2.1.toNat (by omega)
  rw [e] at fa fb
  unfold Keeps
  rw [mk_place, mk_zero, mk_sum]
  split
  · rename_i hr
    have := (told_iff ts set _ true _ ts.length).1 fb
    exact this.2 k hk hb rfl hr
  · rename_i hr
    have := (told_iff ts set _ false _ ts.length).1 fa
    have := this.2 k hk hb rfl (by simpa using hr)
    omega
theorem fit_iff (s : Int) (j : Nat) : (∃ p, Fit ts set s j p) ↔ ((toldTo ts set j false ts.length).1 ≤ (toldTo ts set j false ts.length).2 ∧ (toldTo ts set j true ts.length).1 ≤ (toldTo ts set j true ts.length).2) ∧
    (toldTo ts set j false ts.length).1 + (toldTo ts set j true ts.length).1 ≤ s ∧ s ≤ (toldTo ts set j false ts.length).2 + (toldTo ts set j true ts.length).2 := by
  unfold Fit
  generalize toldTo ts set j false ts.length = A
  generalize toldTo ts set j true ts.length = B
  constructor
  · rintro ⟨p, h⟩; omega
  · intro h; exact ⟨max A.1 (s - B.2), by omega⟩
theorem sumsTo_iff (s : Int) : ∀ k, (∃ o, sumsTo ts set sLo sHi k = some o ∧ o.1 ≤ s ∧ s ≤ o.2) ↔ (sLo ≤ s ∧ s ≤ sHi) ∧ ∀ j, j < k → ∃ p, Fit ts set s j p
  | 0 => by simp [sumsTo]
  | k + 1 => by
    have ih := sumsTo_iff s k
    have hk := fit_iff (ts := ts) (set := set) s k
    have hall : (∀ j, j < k + 1 → ∃ p, Fit ts set s j p) ↔ (∀ j, j < k → ∃ p, Fit ts set s j p) ∧ ∃ p, Fit ts set s k p :=
      ⟨fun h => ⟨fun j hj => h j (by omega), h k (by omega)⟩, fun ⟨a, b⟩ j hj => by
        by_cases e : j = k
        · subst e; exact b
        · exact a j (by omega)⟩
    rw [hall, ← and_assoc, ← ih, hk, sumsTo]
    generalize toldTo ts set k false ts.length = A
    generalize toldTo ts set k true ts.length = B
    cases hs : sumsTo ts set sLo sHi k with
    | none => simp
    | some q =>
      dsimp only
      split
      · rename_i hc
        simp only [Bool.or_eq_true, decide_eq_true_eq] at hc
        constructor
        · rintro ⟨o, h, _⟩; cases h
        · rintro ⟨_, h⟩; omega
      · rename_i hc
        simp only [Bool.or_eq_true, decide_eq_true_eq, not_or] at hc
        constructor
        · rintro ⟨o, h, h1, h2⟩
          injection h with h
          subst h
          dsimp only at h1 h2
          rw [mxI_le] at h1
          rw [le_mnI] at h2
          exact ⟨⟨q, rfl, h1.1, h2.1⟩, ⟨by omega, by omega⟩, h1.2, h2.2⟩
        · rintro ⟨⟨o, h, h1, h2⟩, _, h3, h4⟩
          injection h with h
          subst h
          exact ⟨_, rfl, mxI_le.2 ⟨h1, h3⟩, le_mnI.2 ⟨h2, h4⟩⟩
/-- The sums with which a set has a truth. -/
theorem sums_iff (hf : ∀ t ∈ ts, Fair 131072 t) (hN : ∀ t ∈ ts, 0 ≤ t.2.1 ∧ t.2.1 < N) (h0 : 0 ≤ sLo ∧ sHi ≤ 131072) (s : Int) :
    (∃ o, sumsTo ts set sLo sHi N = some o ∧ o.1 ≤ s ∧ s ≤ o.2) ↔ ∃ x, TellsB sLo sHi ts set x ∧ x 1 - x 0 = s := by
  rw [sumsTo_iff]
  constructor
  · rintro ⟨hs, hp⟩
    have hp' : ∀ j, ∃ p, j < N → Fit ts set s j p := fun j => by
      by_cases hj : j < N
      · obtain ⟨p, h⟩ := hp j hj; exact ⟨p, fun _ => h⟩
      · exact ⟨0, fun h => absurd h hj⟩
    have ⟨p, hp''⟩ := Classical.axiomOfChoice hp'
    exact ⟨mk s p, mk_tells hN hs p hp'', by rw [mk_zero, mk_sum]; omega⟩
  · rintro ⟨x, hx, rfl⟩
    exact ⟨hx.1, fun j _ => place_some hf h0 hx j⟩
def sumsE (ts : List Tell) (set sLo sHi : Int) (N : Nat) : Int × Int := (sumsTo ts set sLo sHi N).getD (1, 0)
theorem sums_no (hf : ∀ t ∈ ts, Fair 131072 t) (hN : ∀ t ∈ ts, 0 ≤ t.2.1 ∧ t.2.1 < N) (h0 : 0 ≤ sLo ∧ sHi ≤ 131072) (h : (sumsE ts set sLo sHi N).1 > (sumsE ts set sLo sHi N).2) : ¬∃ x, TellsB sLo sHi ts set x := by
  rintro ⟨x, hx⟩
  obtain ⟨o, e, h1, h2⟩ := (sums_iff hf hN h0 (x 1 - x 0)).2 ⟨x, hx, rfl⟩
  unfold sumsE at h
  rw [e] at h
  dsimp only [Option.getD] at h
  omega
theorem sums_yes (hf : ∀ t ∈ ts, Fair 131072 t) (hN : ∀ t ∈ ts, 0 ≤ t.2.1 ∧ t.2.1 < N) (h0 : 0 ≤ sLo ∧ sHi ≤ 131072) (h : ¬ (sumsE ts set sLo sHi N).1 > (sumsE ts set sLo sHi N).2) :
    Ext (TellsB sLo sHi ts set) 0 1 (sumsE ts set sLo sHi N).1 (sumsE ts set sLo sHi N).2 := by
  have hi := fun s => sums_iff (set := set) hf hN h0 s
  unfold sumsE at *
  cases hs : sumsTo ts set sLo sHi N with
  | none => rw [hs] at h; simp at h
  | some o =>
    rw [hs] at h hi
    dsimp only [Option.getD] at *
    refine ⟨fun x hx => ?_, (hi _).1 ⟨o, rfl, by omega, by omega⟩, (hi _).1 ⟨o, rfl, by omega, by omega⟩⟩
    obtain ⟨q, e, h1, h2⟩ := (hi _).2 ⟨x, hx, rfl⟩
    injection e with e
    subst e
    exact ⟨h1, h2⟩
theorem tellsB_sum {n : Int} (h : sLo ≤ n ∧ n ≤ sHi) (x : Nat → Int) : TellsB n n ts set x ↔ TellsB sLo sHi ts set x ∧ x 1 - x 0 = n := by
  unfold TellsB
  constructor
  · rintro ⟨a, b⟩; exact ⟨⟨by omega, b⟩, by omega⟩
  · rintro ⟨⟨_, b⟩, c⟩; exact ⟨by omega, b⟩
theorem fits_of {s : Int} (hf : ∀ t ∈ ts, Fair 131072 t) (hs : 0 ≤ s ∧ s ≤ 131072) (hx : ∃ x, TellsB s s ts set x) : ∃ p : Nat → Int, ∀ j, Fit ts set s j (p j) := by
  obtain ⟨x, hx⟩ := hx
  have e : x 1 - x 0 = s := by have := hx.1; omega
  exact Classical.axiomOfChoice fun j => by have := place_some hf hs hx j; rw [e] at this; exact this
theorem places_iff {s : Int} {j : Nat} (p : Int) : ((placesS ts set j s).1 ≤ p ∧ p ≤ (placesS ts set j s).2) ↔ Fit ts set s j p := by
  unfold placesS Fit
  dsimp only
  rw [mxI_le, le_mnI]
  constructor <;> (intro h; omega)
/-- With a sum, the places of an image, and how far apart two are. -/
theorem places_ext {s : Int} (hf : ∀ t ∈ ts, Fair 131072 t) (hN : ∀ t ∈ ts, 0 ≤ t.2.1 ∧ t.2.1 < N) (hs : 0 ≤ s ∧ s ≤ 131072) (hx : ∃ x, TellsB s s ts set x) {j : Nat} (hj : Seen ts set j) :
    Ext (TellsB s s ts set) 0 (2 + j) (placesS ts set j s).1 (placesS ts set j s).2 := by
  obtain ⟨p, hp⟩ := fits_of hf hs hx
  have hne := (places_iff (p j)).2 (hp j)
  have hin : ∀ q, Fit ts set s j q → ∃ x, TellsB s s ts set x ∧ x (2 + j) - x 0 = q := fun q hq => by
    refine ⟨mk s (fun i => if i = j then q else p i), mk_tells hN (by omega) _ (fun i _ => ?_), ?_⟩
    · (try dsimp only)
      split
      · rename_i e; rw [e]; exact hq
      · exact hp i
    · rw [mk_place, mk_zero, if_pos rfl]; omega
  refine ⟨fun x hx => ?_, hin _ ((places_iff _).1 (by omega)), hin _ ((places_iff _).1 (by omega))⟩
  obtain ⟨a, b⟩ := place_fits hf hs hx hj
  have e : x 1 - x 0 = s := by have := hx.1; omega
  exact (places_iff _).2 ⟨a, by omega⟩
theorem apart_ext {s : Int} (hf : ∀ t ∈ ts, Fair 131072 t) (hN : ∀ t ∈ ts, 0 ≤ t.2.1 ∧ t.2.1 < N) (hs : 0 ≤ s ∧ s ≤ 131072) (hx : ∃ x, TellsB s s ts set x) {i j : Nat} (hij : i ≠ j) (hi : Seen ts set i) (hj : Seen ts set j) :
    Ext (TellsB s s ts set) (2 + i) (2 + j) ((placesS ts set j s).1 - (placesS ts set i s).2) ((placesS ts set j s).2 - (placesS ts set i s).1) := by
  obtain ⟨p, hp⟩ := fits_of hf hs hx
  have hnj := (places_iff (p j)).2 (hp j)
  have hni := (places_iff (p i)).2 (hp i)
  have hin : ∀ q r, Fit ts set s j q → Fit ts set s i r → ∃ x, TellsB s s ts set x ∧ x (2 + j) - x (2 + i) = q - r := fun q r hq hr => by
    refine ⟨mk s (fun k => if k = j then q else if k = i then r else p k), mk_tells hN (by omega) _ (fun k _ => ?_), ?_⟩
    · (try dsimp only)
      split
      · rename_i e; rw [e]; exact hq
      · split
        · rename_i e; rw [e]; exact hr
        · exact hp k
    · rw [mk_place, mk_place, if_pos rfl, if_neg hij, if_pos rfl]
  refine ⟨fun x hx => ?_, hin _ _ ((places_iff _).1 (by omega)) ((places_iff _).1 (by omega)), hin _ _ ((places_iff _).1 (by omega)) ((places_iff _).1 (by omega))⟩
  obtain ⟨a, b⟩ := place_fits hf hs hx hj
  obtain ⟨c, d⟩ := place_fits hf hs hx hi
  have e : x 1 - x 0 = s := by have := hx.1; omega
  have h1 := (places_iff (ts := ts) (set := set) (s := s) (j := j) _).2 ⟨a, by omega⟩
  have h2 := (places_iff (ts := ts) (set := set) (s := s) (j := i) _).2 ⟨c, by omega⟩
  omega
/-- Of all sums together. -/
theorem ext_union {i j : Nat} {lo hi a b : Int} (hs : Ext (TellsB sLo sHi ts set) 0 1 lo hi) (f : Int → Int × Int) (hf : ∀ s, lo ≤ s → s ≤ hi → Ext (TellsB s s ts set) i j (f s).1 (f s).2)
    (hb : ∀ s, lo ≤ s → s < hi + 1 → a ≤ (f s).1 ∧ (f s).2 ≤ b) (hl : ∃ s, lo ≤ s ∧ s < hi + 1 ∧ a = (f s).1) (hr : ∃ s, lo ≤ s ∧ s < hi + 1 ∧ b = (f s).2) : Ext (TellsB sLo sHi ts set) i j a b := by
  obtain ⟨hall, ⟨xl, hxl, el⟩, xh, hxh, eh⟩ := hs
  have hrng : ∀ s, lo ≤ s → s ≤ hi → sLo ≤ s ∧ s ≤ sHi := fun s h1 h2 => by
    have := hxl.1; have := hxh.1; omega
  refine ⟨fun x hx => ?_, ?_, ?_⟩
  · obtain ⟨h1, h2⟩ := hall x hx
    have := (hf _ h1 h2).1 x ((tellsB_sum (hrng _ h1 h2) x).2 ⟨hx, rfl⟩)
    have := hb _ h1 (by omega)
    omega
  · obtain ⟨s, h1, h2, e⟩ := hl
    obtain ⟨x, hx, ex⟩ := (hf s h1 (by omega)).2.1
    exact ⟨x, ((tellsB_sum (hrng _ h1 (by omega)) x).1 hx).1, by rw [ex, e]⟩
  · obtain ⟨s, h1, h2, e⟩ := hr
    obtain ⟨x, hx, ex⟩ := (hf s h1 (by omega)).2.2
    exact ⟨x, ((tellsB_sum (hrng _ h1 (by omega)) x).1 hx).1, by rw [ex, e]⟩
end
/-- The least and the greatest, one by one. -/
def foldE (f : Int → Int × Int) (lo : Int) (z : Int × Int) : Nat → Int × Int
  | 0 => z
  | k + 1 => (mnI (foldE f lo z k).1 (f (lo + k)).1, mxI (foldE f lo z k).2 (f (lo + k)).2)
theorem plTo_fold (ts : List Tell) (set im lo : Int) : ∀ k, plTo ts set im lo k = foldE (placesS ts set im) lo (placesS ts set im lo) k
  | 0 => rfl
  | k + 1 => by rw [plTo, foldE, plTo_fold ts set im lo k]
theorem apTo_fold (ts : List Tell) (set a b lo : Int) : ∀ k, apTo ts set a b lo k = foldE (fun s => ((placesS ts set b s).1 - (placesS ts set a s).2, (placesS ts set b s).2 - (placesS ts set a s).1)) lo (1099511627776, -1099511627776) k
  | 0 => rfl
  | k + 1 => by rw [apTo, foldE, apTo_fold ts set a b lo k]
theorem foldE_spec (f : Int → Int × Int) (lo : Int) (z : Int × Int) (hz : (f lo).1 ≤ z.1 ∧ z.2 ≤ (f lo).2) : ∀ k : Nat,
    (∀ s, lo ≤ s → s < lo + (k + 1 : Nat) → (foldE f lo z (k + 1)).1 ≤ (f s).1 ∧ (f s).2 ≤ (foldE f lo z (k + 1)).2) ∧ (∃ s, lo ≤ s ∧ s < lo + (k + 1 : Nat) ∧ (foldE f lo z (k + 1)).1 = (f s).1) ∧ ∃ s, lo ≤ s ∧ s < lo + (k + 1 : Nat) ∧ (foldE f lo z (k + 1)).2 = (f s).2
  | 0 => by
    have e1 : (foldE f lo z 1).1 = (f lo).1 := by
      rw [foldE, foldE]; dsimp only
      have : lo + ((0 : Nat) : Int) = lo := by omega
      rw [this]; unfold mnI; split <;> omega
    have e2 : (foldE f lo z 1).2 = (f lo).2 := by
      rw [foldE, foldE]; dsimp only
      have : lo + ((0 : Nat) : Int) = lo := by omega
      rw [this]; unfold mxI; split <;> omega
    refine ⟨fun s h1 h2 => ?_, ⟨lo, by omega, by omega, e1⟩, lo, by omega, by omega, e2⟩
    obtain rfl : s = lo := by omega
    rw [e1, e2]; omega
  | k + 1 => by
    obtain ⟨ha, ⟨s1, a1, a2, a3⟩, s2, b1, b2, b3⟩ := foldE_spec f lo z hz k
    rw [foldE]
    generalize foldE f lo z (k + 1) = g at *
    dsimp only
    refine ⟨fun s h1 h2 => ?_, ?_, ?_⟩
    · by_cases hs : s = lo + ((k + 1 : Nat) : Int)
      · subst hs
        exact ⟨(le_mnI.1 (Int.le_refl _)).2, (mxI_le.1 (Int.le_refl _)).2⟩
      · have := ha s h1 (by omega)
        exact ⟨Int.le_trans (le_mnI.1 (Int.le_refl _)).1 this.1, Int.le_trans this.2 (mxI_le.1 (Int.le_refl _)).1⟩
    · unfold mnI
      split
      · exact ⟨lo + ((k + 1 : Nat) : Int), by omega, by omega, rfl⟩
      · exact ⟨s1, a1, by omega, a3⟩
    · unfold mxI
      split
      · exact ⟨lo + ((k + 1 : Nat) : Int), by omega, by omega, rfl⟩
      · exact ⟨s2, b1, by omega, b3⟩

theorem hasB_all {n k : Nat} (hn : n ≤ 12) (hk : k < n) : hasB (2 ^ n - 1) k = true := by
  have h : ∀ n : Fin 13, ∀ k : Fin 12, k.val < n.val → hasB (2 ^ n.val - 1) k.val = true := by decide +kernel
  exact h ⟨n, by omega⟩ ⟨k, by omega⟩ hk
theorem tellsB_all {sLo sHi : Int} {ts : List Tell} (h : ts.length ≤ 12) (x : Nat → Int) : TellsB sLo sHi ts (2 ^ ts.length - 1) x ↔ Tru sLo sHi ts x := by
  constructor
  · rintro ⟨a, b⟩
    refine ⟨a, fun t ht => ?_⟩
    obtain ⟨k, hk, rfl⟩ := List.getElem_of_mem ht
    have := b k hk (hasB_all h hk)
    simpa [List.getD, hk] using this
  · rintro ⟨a, b⟩
    refine ⟨a, fun k hk _ => b _ ?_⟩
    simp [List.getD, hk]
section
variable {h : Hd} {xs : List (Int × Int)} {ss : List Sett}
theorem len_tells (h : Hd) (xs : List (Int × Int)) (ss : List Sett) : (tellsOf xs h.eLo h.eHi ss).length = ss.length := by simp [tellsOf]
theorem tells_img (hv : validH h xs ss = true) : ∀ t ∈ tellsOf xs h.eLo h.eHi ss, 0 ≤ t.2.1 ∧ t.2.1 < (h.images.toNat : Nat) := by
  obtain ⟨a, b, c, d, e, f, g⟩ := valid_has hv
  intro t ht
  obtain ⟨s, hs, rfl⟩ := List.mem_map.1 ht
  obtain ⟨g1, g2, g3⟩ := g s hs
  unfold tellOf
  dsimp only
  omega
theorem seen_of (hv : validH h xs ss = true) {im : Int} (hc : hasC im (cntsOf ss) = true) : Seen (tellsOf xs h.eLo h.eHi ss) (allS ss) im := by
  obtain ⟨a, b, c, d, e, f, g⟩ := valid_has hv
  rw [hasC_cnts, List.any_eq_true] at hc
  obtain ⟨s, hs, he⟩ := hc
  obtain ⟨k, hk, rfl⟩ := List.getElem_of_mem hs
  refine ⟨k, by rw [len_tells]; exact hk, hasB_all f hk, ?_⟩
  have : im = ss[k].1 := by simpa using he
  rw [this]
  simp [List.getD, tellsOf, tellOf, hk]
/-- The sums of the reference: all of them have a truth, and no others have. -/
theorem ref_sums (hv : validH h xs ss = true) (hs : ¬ (sumsS h xs ss (allS ss)).1 > (sumsS h xs ss (allS ss)).2) :
    Ext (Tru h.sLo h.sHi (tellsOf xs h.eLo h.eHi ss)) 0 1 (sumsS h xs ss (allS ss)).1 (sumsS h xs ss (allS ss)).2 := by
  obtain ⟨a, b, c, d, e, f, g⟩ := valid_has hv
  have := sums_yes (ts := tellsOf xs h.eLo h.eHi ss) (set := allS ss) (sLo := h.sLo) (sHi := h.sHi) (fair_of hv) (tells_img hv) (by omega) hs
  refine Ext.congr (fun x => ?_) this
  have := tellsB_all (sLo := h.sLo) (sHi := h.sHi) (ts := tellsOf xs h.eLo h.eHi ss) (by rw [len_tells]; exact f) x
  rw [len_tells] at this
  exact this
theorem ref_none (hv : validH h xs ss = true) (hs : (sumsS h xs ss (allS ss)).1 > (sumsS h xs ss (allS ss)).2) : ¬∃ x, Tru h.sLo h.sHi (tellsOf xs h.eLo h.eHi ss) x := by
  obtain ⟨a, b, c, d, e, f, g⟩ := valid_has hv
  have := sums_no (ts := tellsOf xs h.eLo h.eHi ss) (set := allS ss) (sLo := h.sLo) (sHi := h.sHi) (fair_of hv) (tells_img hv) (by omega) hs
  rintro ⟨x, hx⟩
  refine this ⟨x, ?_⟩
  have := tellsB_all (sLo := h.sLo) (sHi := h.sHi) (ts := tellsOf xs h.eLo h.eHi ss) (by rw [len_tells]; exact f) x
  rw [len_tells] at this
  exact this.2 hx
theorem inB_img (hv : validH h xs ss = true) (im : Int) : inB im 0 (wrap64 (h.images - 1)) = isImg h.images im := by
  obtain ⟨a, b, c, d, e, f, g⟩ := valid_has hv
  have : wrap64 (h.images - 1) = h.images - 1 := by unfold wrap64; omega
  rw [this, isImg_in]
theorem sum_same (h : Hd) (xs : List (Int × Int)) (ss : List Sett) : reply (sumA h xs ss) = tup3 (openE h xs ss true).1 (openE h xs ss true).2.1 (openE h xs ss true).2.2 := by
  unfold openE
  by_cases hv : validH h xs ss = true
  · rw [if_pos hv, if_pos rfl]
    split
    · rename_i hs
      rw [sum_clash hv (ref_none hv hs)]; rfl
    · rename_i hs
      have he := ref_sums hv hs
      have ⟨x, hx, _⟩ := he.2.1
      obtain ⟨lo, hi, e, ex⟩ := sum_ok hv ⟨x, hx⟩
      obtain ⟨rfl, rfl⟩ := ex.unique he
      rw [e]; rfl
  · rw [if_neg hv]
    unfold sumA
    rw [if_neg hv]; rfl
theorem ref_each (hv : validH h xs ss = true) (hs : ¬ (sumsS h xs ss (allS ss)).1 > (sumsS h xs ss (allS ss)).2) :
    ∀ s, (sumsS h xs ss (allS ss)).1 ≤ s → s ≤ (sumsS h xs ss (allS ss)).2 → (0 ≤ s ∧ s ≤ 131072) ∧ ∃ x, TellsB s s (tellsOf xs h.eLo h.eHi ss) (allS ss) x := by
  obtain ⟨a, b, c, d, e, f, g⟩ := valid_has hv
  have he := ref_sums hv hs
  have hw := sum_within he
  intro s h1 h2
  refine ⟨by omega, ?_⟩
  obtain ⟨x, hx⟩ := sum_each he h1 h2
  refine ⟨x, ?_⟩
  have := tellsB_all (sLo := s) (sHi := s) (ts := tellsOf xs h.eLo h.eHi ss) (by rw [len_tells]; exact f) x
  rw [len_tells] at this
  exact this.2 hx
theorem ref_sumsB (hv : validH h xs ss = true) (hs : ¬ (sumsS h xs ss (allS ss)).1 > (sumsS h xs ss (allS ss)).2) :
    Ext (TellsB h.sLo h.sHi (tellsOf xs h.eLo h.eHi ss) (allS ss)) 0 1 (sumsS h xs ss (allS ss)).1 (sumsS h xs ss (allS ss)).2 := by
  obtain ⟨a, b, c, d, e, f, g⟩ := valid_has hv
  exact sums_yes (ts := tellsOf xs h.eLo h.eHi ss) (set := allS ss) (sLo := h.sLo) (sHi := h.sHi) (fair_of hv) (tells_img hv) (by omega) hs
theorem ext_all (hv : validH h xs ss = true) {i j : Nat} {p q : Int} (k : Ext (TellsB h.sLo h.sHi (tellsOf xs h.eLo h.eHi ss) (allS ss)) i j p q) : Ext (Tru h.sLo h.sHi (tellsOf xs h.eLo h.eHi ss)) i j p q := by
  obtain ⟨a, b, c, d, e, f, g⟩ := valid_has hv
  refine Ext.congr (fun x => ?_) k
  have := tellsB_all (sLo := h.sLo) (sHi := h.sHi) (ts := tellsOf xs h.eLo h.eHi ss) (by rw [len_tells]; exact f) x
  rw [len_tells] at this
  exact this
theorem fold_ext (hv : validH h xs ss = true) (hs : ¬ (sumsS h xs ss (allS ss)).1 > (sumsS h xs ss (allS ss)).2) {i j : Nat} (f : Int → Int × Int) (z : Int × Int)
    (hz : (f (sumsS h xs ss (allS ss)).1).1 ≤ z.1 ∧ z.2 ≤ (f (sumsS h xs ss (allS ss)).1).2)
    (hf : ∀ s, (sumsS h xs ss (allS ss)).1 ≤ s → s ≤ (sumsS h xs ss (allS ss)).2 → Ext (TellsB s s (tellsOf xs h.eLo h.eHi ss) (allS ss)) i j (f s).1 (f s).2) :
    Ext (Tru h.sLo h.sHi (tellsOf xs h.eLo h.eHi ss)) i j (foldE f (sumsS h xs ss (allS ss)).1 z ((sumsS h xs ss (allS ss)).2 - (sumsS h xs ss (allS ss)).1 + 1).toNat).1
      (foldE f (sumsS h xs ss (allS ss)).1 z ((sumsS h xs ss (allS ss)).2 - (sumsS h xs ss (allS ss)).1 + 1).toNat).2 := by
  have hB := ref_sumsB hv hs
  generalize sumsS h xs ss (allS ss) = r at *
  obtain ⟨k, hk⟩ : ∃ k : Nat, (r.2 - r.1 + 1).toNat = k + 1 := ⟨(r.2 - r.1).toNat, by omega⟩
  obtain ⟨s1, s2, s3⟩ := foldE_spec f r.1 z hz k
  have e : r.1 + ((k + 1 : Nat) : Int) = r.2 + 1 := by omega
  rw [e] at s1 s2 s3
  rw [hk]
  exact ext_all hv (ext_union hB f hf s1 s2 s3)
theorem place_same (h : Hd) (xs : List (Int × Int)) (ss : List Sett) (im : Int) : reply (placeA h xs ss im) = tup3 (placeE h xs ss im).1 (placeE h xs ss im).2.1 (placeE h xs ss im).2.2 := by
  unfold placeE
  by_cases hv : validH h xs ss = true
  · rw [inB_img hv]
    cases hi : isImg h.images im
    · have e : openE h xs ss false = (0, 0, 2) := by unfold openE; rw [if_pos hv, if_neg (by simp)]
      rw [e, place_range hv hi]; rfl
    · by_cases hs : (sumsS h xs ss (allS ss)).1 > (sumsS h xs ss (allS ss)).2
      · have e : openE h xs ss true = (0, 0, 10) := by unfold openE; rw [if_pos hv, if_pos rfl, if_pos hs]
        rw [e, place_clash hv hi (ref_none hv hs)]; rfl
      · have e : openE h xs ss true = ((sumsS h xs ss (allS ss)).1, (sumsS h xs ss (allS ss)).2, 0) := by unfold openE; rw [if_pos hv, if_pos rfl, if_neg hs]
        rw [e]
        dsimp only
        rw [if_pos rfl]
        have ⟨x, hx, _⟩ := (ref_sums hv hs).2.1
        cases hc : hasC im (cntsOf ss)
        · rw [place_doubt hv hi ⟨x, hx⟩ hc]; rfl
        · obtain ⟨lo, hh, e2, ex⟩ := place_ok hv hi ⟨x, hx⟩ hc
          rw [e2, if_pos rfl]
          obtain ⟨k, rfl, hk⟩ := img_of hv hi
          have hS := seen_of hv hc
          have hE := fold_ext hv hs (i := 0) (j := 2 + k) (placesS (tellsOf xs h.eLo h.eHi ss) (allS ss) k) (placesS (tellsOf xs h.eLo h.eHi ss) (allS ss) k (sumsS h xs ss (allS ss)).1) ⟨Int.le_refl _, Int.le_refl _⟩
            (fun s h1 h2 => places_ext (fair_of hv) (tells_img hv) (ref_each hv hs s h1 h2).1 (ref_each hv hs s h1 h2).2 hS)
          have e3 : ((k : Nat) : Int).toNat = k := by omega
          rw [e3] at ex
          rw [plTo_fold]
          obtain ⟨e4, e5⟩ := ex.unique hE
          rw [e4, e5]; rfl
  · have e : ∀ v, openE h xs ss v = (0, 0, 1) := fun v => by unfold openE; rw [if_neg hv]
    rw [e]
    unfold placeA
    rw [if_neg hv]; rfl
/-- How far apart: as Sem says it of the place. -/
theorem apart_range {a b : Int} (hv : validH h xs ss = true) (hi : ¬ (isImg h.images a = true ∧ isImg h.images b = true)) : apartA h xs ss a b = .error 2 := by
  unfold apartA apartR
  rw [if_pos hv]
  cases ha : isImg h.images a
  · rw [if_neg (by simp)]
  · cases hb : isImg h.images b
    · rw [if_pos rfl, if_neg (by simp)]
    · exact absurd ⟨ha, hb⟩ hi
theorem apart_clash {a b : Int} (hv : validH h xs ss = true) (ha : isImg h.images a = true) (hb : isImg h.images b = true) (hx : ¬∃ x, Tru h.sLo h.sHi (tellsOf xs h.eLo h.eHi ss) x) : apartA h xs ss a b = .error 10 := by
  have ht : ¬ (truthsS h xs ss).1 = true := fun h => hx ((truths_iff hv).1 h)
  unfold apartA apartR
  rw [if_pos hv, if_pos ha, if_pos hb, if_neg ht]
theorem apart_doubt {a b : Int} (hv : validH h xs ss = true) (ha : isImg h.images a = true) (hb : isImg h.images b = true) (hx : ∃ x, Tru h.sLo h.sHi (tellsOf xs h.eLo h.eHi ss) x) (hne : a ≠ b)
    (hc : ¬ (hasC a (cntsOf ss) = true ∧ hasC b (cntsOf ss) = true)) : apartA h xs ss a b = .error 12 := by
  have ht := (truths_iff hv).2 hx
  unfold apartA apartR
  rw [if_pos hv, if_pos ha, if_pos hb, if_pos ht, if_neg]
  rintro (e | e)
  · exact hne (by simpa using e)
  · exact hc e
theorem apart_ok {a b : Int} (hv : validH h xs ss = true) (ha : isImg h.images a = true) (hb : isImg h.images b = true) (hx : ∃ x, Tru h.sLo h.sHi (tellsOf xs h.eLo h.eHi ss) x)
    (hc : a = b ∨ (hasC a (cntsOf ss) = true ∧ hasC b (cntsOf ss) = true)) :
    ∃ lo hi, apartA h xs ss a b = .ok (.agg #[.int .i64 lo, .int .i64 hi]) ∧ Ext (Tru h.sLo h.sHi (tellsOf xs h.eLo h.eHi ss)) (2 + a.toNat) (2 + b.toNat) lo hi := by
  have ht := (truths_iff hv).2 hx
  obtain ⟨i, rfl, hi⟩ := img_of hv ha
  obtain ⟨j, rfl, hj⟩ := img_of hv hb
  have e0 : ((2 : Int) + (i : Int)).toNat = 2 + i := by omega
  have e1 : ((2 : Int) + (j : Int)).toNat = 2 + j := by omega
  have e2 : ((i : Nat) : Int).toNat = i := by omega
  have e3 : ((j : Nat) : Int).toNat = j := by omega
  obtain ⟨lo, hi', e, ex⟩ := (truths_yes hv ht).2 (2 + i) (2 + j) (by omega) (by omega) (fun k hk => by
    rcases hc with hc | ⟨hc, hd⟩
    · exact .inr (.inr (by omega))
    · rcases hk with rfl | rfl
      · exact .inr (.inl (by have : ((2 + i : Nat) : Int) - 2 = (i : Int) := by omega
                             rw [this]; exact hc))
      · exact .inr (.inl (by have : ((2 + j : Nat) : Int) - 2 = (j : Int) := by omega
                             rw [this]; exact hd)))
  refine ⟨lo, hi', ?_, by rw [e2, e3]; exact ex⟩
  unfold apartA apartR
  rw [if_pos hv, if_pos ha, if_pos hb, if_pos ht, if_pos (by rcases hc with hc | hc; exact .inl (by simp [hc]); exact .inr hc), e0, e1, e]
theorem ext_self {S : (Nat → Int) → Prop} {i : Nat} {lo hi : Int} (h : Ext S i i lo hi) : lo = 0 ∧ hi = 0 := by
  obtain ⟨_, ⟨x, _, e⟩, y, _, f⟩ := h
  omega
theorem apart_same (h : Hd) (xs : List (Int × Int)) (ss : List Sett) (a b : Int) : reply (apartA h xs ss a b) = tup3 (apartE h xs ss a b).1 (apartE h xs ss a b).2.1 (apartE h xs ss a b).2.2 := by
  unfold apartE inAB
  by_cases hv : validH h xs ss = true
  · rw [inB_img hv, inB_img hv]
    by_cases hi : isImg h.images a = true ∧ isImg h.images b = true
    · obtain ⟨ha, hb⟩ := hi
      rw [ha, hb, Bool.and_true]
      by_cases hs : (sumsS h xs ss (allS ss)).1 > (sumsS h xs ss (allS ss)).2
      · have e : openE h xs ss true = (0, 0, 10) := by unfold openE; rw [if_pos hv, if_pos rfl, if_pos hs]
        rw [e, apart_clash hv ha hb (ref_none hv hs)]; rfl
      · have e : openE h xs ss true = ((sumsS h xs ss (allS ss)).1, (sumsS h xs ss (allS ss)).2, 0) := by unfold openE; rw [if_pos hv, if_pos rfl, if_neg hs]
        rw [e]
        dsimp only
        rw [if_pos rfl]
        have ⟨x, hx, _⟩ := (ref_sums hv hs).2.1
        by_cases hab : a = b
        · subst hab
          obtain ⟨lo, hh, e2, ex⟩ := apart_ok hv ha hb ⟨x, hx⟩ (.inl rfl)
          obtain ⟨rfl, rfl⟩ := ext_self ex
          rw [e2, if_pos (by simp)]; rfl
        · rw [if_neg (by simpa using hab)]
          cases hca : hasC a (cntsOf ss)
          · rw [apart_doubt hv ha hb ⟨x, hx⟩ hab (by rw [hca]; simp)]; rfl
          · rw [if_pos rfl]
            cases hcb : hasC b (cntsOf ss)
            · rw [apart_doubt hv ha hb ⟨x, hx⟩ hab (by rw [hcb]; simp)]; rfl
            · obtain ⟨lo, hh, e2, ex⟩ := apart_ok hv ha hb ⟨x, hx⟩ (.inr ⟨hca, hcb⟩)
              rw [e2, if_pos rfl]
              obtain ⟨i, rfl, hi⟩ := img_of hv ha
              obtain ⟨j, rfl, hj⟩ := img_of hv hb
              have hne : i ≠ j := fun e => hab (by rw [e])
              have hSa := seen_of hv hca
              have hSb := seen_of hv hcb
              have hA : ∀ s, (sumsS h xs ss (allS ss)).1 ≤ s → s ≤ (sumsS h xs ss (allS ss)).2 → Ext (TellsB s s (tellsOf xs h.eLo h.eHi ss) (allS ss)) (2 + i) (2 + j) ((placesS (tellsOf xs h.eLo h.eHi ss) (allS ss) j s).1 - (placesS (tellsOf xs h.eLo h.eHi ss) (allS ss) i s).2) ((placesS (tellsOf xs h.eLo h.eHi ss) (allS ss) j s).2 - (placesS (tellsOf xs h.eLo h.eHi ss) (allS ss) i s).1) :=
                fun s h1 h2 => apart_ext (fair_of hv) (tells_img hv) (ref_each hv hs s h1 h2).1 (ref_each hv hs s h1 h2).2 hne hSa hSb
              have hbd : ∀ y, TellsB (sumsS h xs ss (allS ss)).1 (sumsS h xs ss (allS ss)).1 (tellsOf xs h.eLo h.eHi ss) (allS ss) y → -1099511627776 ≤ y (2 + j) - y (2 + i) ∧ y (2 + j) - y (2 + i) ≤ 1099511627776 := fun y hy => by
                have hbs : ∀ k : Nat, Seen (tellsOf xs h.eLo h.eHi ss) (allS ss) k → -262144 ≤ y (2 + k) - y 0 ∧ y (2 + k) - y 0 ≤ 262144 := fun k hk => by
                  have hr := (ref_each hv hs _ (Int.le_refl _) (by omega)).1
                  obtain ⟨k', h1, h2, h3⟩ := hk
                  have hK := hy.2 k' h1 h2
                  obtain ⟨_, f1, f2⟩ := fair_of hv _ (getD_in h1)
                  have e : ((tellsOf xs h.eLo h.eHi ss).getD k' dfl).2.1.toNat = k := by omega
                  have := hy.1
                  unfold Keeps at hK
                  rw [e] at hK
                  split at hK <;> omega
                have := hbs i hSa; have := hbs j hSb
                omega
              have hE := fold_ext hv hs (i := 2 + i) (j := 2 + j) (fun s => ((placesS (tellsOf xs h.eLo h.eHi ss) (allS ss) j s).1 - (placesS (tellsOf xs h.eLo h.eHi ss) (allS ss) i s).2, (placesS (tellsOf xs h.eLo h.eHi ss) (allS ss) j s).2 - (placesS (tellsOf xs h.eLo h.eHi ss) (allS ss) i s).1))
                (1099511627776, -1099511627776) (by
                  obtain ⟨_, ⟨y, hy, ey⟩, z, hz, ez⟩ := hA _ (Int.le_refl _) (by omega)
                  have := hbd y hy; have := hbd z hz
                  dsimp only
                  omega) hA
              have e3 : ((i : Nat) : Int).toNat = i := by omega
              have e4 : ((j : Nat) : Int).toNat = j := by omega
              rw [e3, e4] at ex
              rw [apTo_fold]
              obtain ⟨e5, e6⟩ := ex.unique hE
              rw [e5, e6]; rfl
    · have e : openE h xs ss false = (0, 0, 2) := by unfold openE; rw [if_pos hv, if_neg (by simp)]
      have e2 : (isImg h.images a && isImg h.images b) = false := by
        cases ha : isImg h.images a
        · rfl
        · cases hb : isImg h.images b
          · rfl
          · exact absurd ⟨ha, hb⟩ hi
      rw [e2, e, apart_range hv hi]; rfl
  · have e : ∀ v, openE h xs ss v = (0, 0, 1) := fun v => by unfold openE; rw [if_neg hv]
    rw [e]
    unfold apartA
    rw [if_neg hv]; rfl
end
end Go.Proofs.Ytmfbkgdlfackcaa
