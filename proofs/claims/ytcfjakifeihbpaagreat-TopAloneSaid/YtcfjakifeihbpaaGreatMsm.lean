/- What the package answers, in words of truths: numbers that are as all settings tell. -/
import Derived.Test.YtcfjakifeihbpaaGreatScA
import Derived.Test.YtcfjakifeihbpaaGreatApi
namespace Go.Proofs.YtcfjakifeihbpaaGreat
open Fw Go.RowKit

/-- The zero, the sum and the places are as the sum's limits and all settings tell. -/
def Tru (sLo sHi : Int) (ts : List Tell) (x : Nat → Int) : Prop := (sLo ≤ x 1 - x 0 ∧ x 1 - x 0 ≤ sHi) ∧ ∀ t ∈ ts, Keeps t x

theorem setI_all {n k : Nat} (hn : n ≤ 12) (hk : k < n) : setI (2 ^ n - 1) k = true := by
  have h : ∀ n : Fin 13, ∀ k : Fin 12, k.val < n.val → setI (2 ^ n.val - 1) k.val = true := by decide +kernel
  exact h ⟨n, by omega⟩ ⟨k, by omega⟩ hk
theorem tells_all {sLo sHi : Int} {ts : List Tell} (h : ts.length ≤ 12) (x : Nat → Int) : Tells sLo sHi ts (2 ^ ts.length - 1) ts.length x ↔ Tru sLo sHi ts x := by
  constructor
  · rintro ⟨a, b⟩
    refine ⟨a, fun t ht => ?_⟩
    obtain ⟨k, hk, rfl⟩ := List.getElem_of_mem ht
    have := b k hk (setI_all h hk)
    simpa [List.getD, hk] using this
  · rintro ⟨a, b⟩
    refine ⟨a, fun k hk _ => b _ ?_⟩
    simp [List.getD, hk]

theorem valid_has {h : Hd} {xs : List (Int × Int)} {ss : List Sett} (hv : validH h xs ss = true) :
    (1 ≤ xs.length ∧ xs.length ≤ 40) ∧ evB (-100) 100 xs = true ∧ (-100 ≤ h.eLo ∧ h.eLo ≤ h.eHi ∧ h.eHi ≤ 100) ∧ (1 ≤ h.images ∧ h.images ≤ 6) ∧ (0 ≤ h.sLo ∧ h.sLo ≤ h.sHi ∧ h.sHi ≤ 131072) ∧ ss.length ≤ 12 ∧
      ∀ s ∈ ss, (0 ≤ s.1 ∧ s.1 < h.images) ∧ 0 ≤ s.2.1 ∧ s.2.1 / 1000 < xs.length := by
  simp only [validH, validM, headB, validB, holdB, setsB, Bool.and_eq_true, decide_eq_true_eq] at hv
  obtain ⟨⟨⟨⟨⟨⟨a, b⟩, c⟩, d⟩, e⟩, f⟩, g⟩ := hv
  refine ⟨by omega, b, by omega, by omega, by omega, f, fun s hs => ?_⟩
  have := (List.all_eq_true.1 g) s hs
  simp only [setB, isImg, hasTrn, Bool.and_eq_true, decide_eq_true_eq] at this
  exact this
theorem valid_iff {h : Hd} {xs : List (Int × Int)} {ss : List Sett} : validH h xs ss = true ↔ ((1 ≤ xs.length ∧ xs.length ≤ 40) ∧ evB (-100) 100 xs = true ∧ (-100 ≤ h.eLo ∧ h.eLo ≤ h.eHi ∧ h.eHi ≤ 100) ∧ (1 ≤ h.images ∧ h.images ≤ 6) ∧ (0 ≤ h.sLo ∧ h.sLo ≤ h.sHi ∧ h.sHi ≤ 131072) ∧ ss.length ≤ 12 ∧
      ∀ s ∈ ss, (0 ≤ s.1 ∧ s.1 < h.images) ∧ 0 ≤ s.2.1 ∧ s.2.1 / 1000 < xs.length) := by
  refine ⟨valid_has, fun ⟨a, b, c, d, e, f, g⟩ => ?_⟩
  simp only [validH, validM, headB, validB, holdB, setsB, Bool.and_eq_true, decide_eq_true_eq]
  refine ⟨⟨⟨⟨⟨⟨by omega, b⟩, by omega⟩, by omega⟩, by omega⟩, f⟩, ?_⟩
  rw [List.all_eq_true]
  intro s hs
  simp only [setB, isImg, hasTrn, Bool.and_eq_true, decide_eq_true_eq]
  exact g s hs
theorem evB_at {lo hi : Int} {xs : List (Int × Int)} (h : evB lo hi xs = true) {k : Nat} (hk : k < xs.length) : lo ≤ (xs.getD k (0, 0)).1 ∧ (xs.getD k (0, 0)).1 ≤ (xs.getD k (0, 0)).2 ∧ (xs.getD k (0, 0)).2 ≤ hi := by
  have := (List.all_eq_true.1 h) _ (List.getElem_mem hk)
  simp only [holdB, Bool.and_eq_true, decide_eq_true_eq] at this
  simp only [List.getD, List.getElem?_eq_getElem hk, Option.getD_some]
  omega
theorem trav_eq {r lo e : Int} (hr : 0 ≤ r ∧ r < 1000000) (hl : -1000 ≤ lo ∧ lo ≤ 1000) (he : -1000 ≤ e ∧ e ≤ 1000) : trav r lo e = r + lo + e := by
  unfold trav wrap64; omega
theorem fair_of {h : Hd} {xs : List (Int × Int)} {ss : List Sett} (hv : validH h xs ss = true) : ∀ t ∈ tellsOf xs h.eLo h.eHi ss, Fair 131072 t := by
  obtain ⟨a, b, c, d, e, f, g⟩ := valid_has hv
  intro t ht
  obtain ⟨s, hs, rfl⟩ := List.mem_map.1 ht
  obtain ⟨g1, g2, g3⟩ := g s hs
  have hk : (s.2.1 / 1000).toNat < xs.length := by omega
  obtain ⟨e1, e2, e3⟩ := evB_at b hk
  unfold Fair tellOf
  dsimp only
  rw [trav_eq (by omega) (by omega) (by omega), trav_eq (by omega) (by omega) (by omega)]
  omega

/-! Which images have a setting. -/
theorem posC_has (k : Int) : ∀ (cs : List Cnt) (i : Nat), (posC k cs i).isSome = cs.any fun c => k == c.1
  | [], _ => rfl
  | c :: cs, i => by
    rw [posC, List.any_cons]
    cases hc : (k == c.1)
    · rw [if_neg (by simp)]; simpa using posC_has k cs (i + 1)
    · rw [if_pos rfl]; rfl
theorem posC_at (k : Int) : ∀ (cs : List Cnt) (i q : Nat) (v : Int × Int), posC k cs i = some (q, v) → i ≤ q ∧ cs[q - i]? = some (k, v)
  | [], _, _, _, h => by cases h
  | c :: cs, i, q, v, h => by
    rw [posC] at h
    cases hc : (k == c.1)
    · rw [hc, if_neg (by simp)] at h
      obtain ⟨a, b⟩ := posC_at k cs (i + 1) q v h
      refine ⟨by omega, ?_⟩
      have : q - i = (q - (i + 1)) + 1 := by omega
      rw [this, List.getElem?_cons_succ]; exact b
    · rw [hc, if_pos rfl] at h
      have hk : k = c.1 := by simpa using hc
      injection h with h
      injection h with h1 h2
      subst h1 h2 hk
      refine ⟨Nat.le_refl _, ?_⟩
      rw [Nat.sub_self]; rfl
theorem keys_set : ∀ (cs : List Cnt) (q : Nat) (j : Int) (v u : Int × Int), cs[q]? = some (j, u) → (cs.set q (j, v)).map (·.1) = cs.map (·.1)
  | [], _, _, _, _, h => by simp at h
  | c :: cs, 0, j, v, u, h => by
    simp at h; subst h; simp
  | c :: cs, q + 1, j, v, u, h => by
    rw [List.getElem?_cons_succ] at h
    simp [keys_set cs q j v u h]
theorem any_keys (cs : List Cnt) (k : Int) : (cs.any fun c => k == c.1) = (cs.map (·.1)).any fun c => k == c := by simp [List.any_map, Function.comp_def]
theorem hasC_set (k j : Int) (v : Int × Int) (cs : List Cnt) : hasC k (setC j v cs) = (hasC k cs || k == j) := by
  unfold hasC
  rw [posC_has, posC_has]
  unfold setC
  cases hp : posC j cs 0 with
  | none => simp
  | some p =>
    obtain ⟨q, u⟩ := p
    obtain ⟨_, hq⟩ := posC_at j cs 0 q u hp
    rw [Nat.sub_zero] at hq
    dsimp only
    rw [any_keys, keys_set cs q j v u hq, ← any_keys]
    cases hkj : (k == j)
    · simp
    · have hkj' : k = j := by simpa using hkj
      subst hkj'
      have : (cs.any fun c => k == c.1) = true := List.any_eq_true.2 ⟨(k, u), List.mem_of_getElem? hq, by simp⟩
      rw [this]; rfl
theorem hasC_cnts (k : Int) (ss : List Sett) : hasC k (cntsOf ss) = ss.any fun s => k == s.1 := by
  have h : ∀ (ss : List Sett) (cs : List Cnt), hasC k (ss.foldl cntOf cs) = (hasC k cs || ss.any fun s => k == s.1) := by
    intro ss
    induction ss with
    | nil => intro cs; simp
    | cons s ss ih =>
      intro cs
      rw [List.foldl_cons, ih, cntOf, hasC_set, List.any_cons, Bool.or_assoc]
  have := h ss []
  rw [cntsOf, this]
  rfl

/-- What is known of all truths of a valid measure. -/
theorem truths_no {h : Hd} {xs : List (Int × Int)} {ss : List Sett} (hv : validH h xs ss = true) (hb : (truthsS h xs ss).1 = false) : ¬∃ x, Tru h.sLo h.sHi (tellsOf xs h.eLo h.eHi ss) x := by
  obtain ⟨hts, _⟩ := tells_ok hv
  obtain ⟨a, b, c, d, e, f, g⟩ := valid_has hv
  have := bounds_no (B := 131072) ⟨by omega, by decide⟩ (by omega) (fair_of hv) _ hb
  rintro ⟨x, hx⟩
  exact this ⟨x, (tells_all hts x).2 hx⟩
theorem Ext.congr {S S' : (Nat → Int) → Prop} (hs : ∀ x, S x ↔ S' x) {i j : Nat} {lo hi : Int} (h : Ext S i j lo hi) : Ext S' i j lo hi := by
  obtain ⟨a, ⟨x, hx, ex⟩, y, hy, ey⟩ := h
  exact ⟨fun z hz => a z ((hs z).2 hz), ⟨x, (hs x).1 hx, ex⟩, y, (hs y).1 hy, ey⟩
theorem truths_yes {h : Hd} {xs : List (Int × Int)} {ss : List Sett} (hv : validH h xs ss = true) (hb : (truthsS h xs ss).1 = true) :
    (∃ x, Tru h.sLo h.sHi (tellsOf xs h.eLo h.eHi ss) x) ∧
    ∀ i j : Nat, i < 8 → j < 8 → (∀ a : Nat, (a = i ∨ a = j) → a < 2 ∨ hasC ((a : Int) - 2) (cntsOf ss) = true ∨ i = j) →
      ∃ lo hi, spanS (truthsS h xs ss).2 i j = .agg #[.int .i64 lo, .int .i64 hi] ∧ Ext (Tru h.sLo h.sHi (tellsOf xs h.eLo h.eHi ss)) i j lo hi := by
  obtain ⟨hts, _⟩ := tells_ok hv
  obtain ⟨va, vb, vc, vd, ve, vf, vg⟩ := valid_has hv
  have hfair := fair_of hv
  obtain ⟨sh, sol, ext, ⟨g0, g1⟩, fk⟩ := bounds_yes (B := 131072) ⟨by omega, by decide⟩ (by omega) hfair _ hb
  have hx0 : ∃ x, Tru h.sLo h.sHi (tellsOf xs h.eLo h.eHi ss) x := by
    obtain ⟨x, hx, _⟩ := sh.reach (i := 0) (j := 0) (by omega) (by omega) (by rw [sh.zero 0 (by omega)]; decide)
    exact ⟨x, (tells_all hts x).1 ((sol x).1 hx)⟩
  refine ⟨hx0, fun i j hi hj hseen => ?_⟩
  refine ⟨_, _, rfl, ?_⟩
  -- each point that is seen is bound to the zero
  have hz : ∀ a : Nat, a < 8 → (a < 2 ∨ hasC ((a : Int) - 2) (cntsOf ss) = true) → ent (truthsS h xs ss).2 0 a ≠ F ∧ ent (truthsS h xs ss).2 a 0 ≠ F := by
    intro a ha hs
    rcases hs with hs | hs
    · have : a = 0 ∨ a = 1 := by omega
      rcases this with rfl | rfl
      · have := sh.zero 0 (by omega)
        change ent (truthsS h xs ss).2 0 0 = 0 at this
        rw [this]; decide
      · exact ⟨g0, g1⟩
    · rw [hasC_cnts, List.any_eq_true] at hs
      obtain ⟨s, hsm, he⟩ := hs
      obtain ⟨k, hk, hks⟩ := List.getElem_of_mem hsm
      have hk' : k < (tellsOf xs h.eLo h.eHi ss).length := by rw [len_tellsOf]; exact hk
      have e1 : (tellsOf xs h.eLo h.eHi ss).getD k dfl = tellOf xs h.eLo h.eHi s := by
        simp [List.getD, tellsOf, hk, hks]
      have := fk k hk' (setI_all hts hk') 0 (by omega)
      rw [e1] at this
      have e2 : 2 + (tellOf xs h.eLo h.eHi s).2.1.toNat = a := by
        have he' : (a : Int) - 2 = s.1 := by simpa using he
        have := (vg s hsm).1
        simp only [tellOf]
        omega
      rw [e2] at this
      exact this
  have hfin : ent (truthsS h xs ss).2 i j ≠ F ∧ ent (truthsS h xs ss).2 j i ≠ F := by
    by_cases hij : i = j
    · subst hij
      have := sh.zero i hi
      change ent (truthsS h xs ss).2 i i = 0 at this
      rw [this]; decide
    · have zi := hz i hi (by have := hseen i (.inl rfl); rcases this with h | h | h; exact .inl h; exact .inr h; exact absurd h hij)
      have zj := hz j hj (by have := hseen j (.inr rfl); rcases this with h | h | h; exact .inl h; exact .inr h; exact absurd h hij)
      exact ⟨(sh.cl 0 (by omega) i j hi hj zi.2 zj.1).1, (sh.cl 0 (by omega) j i hj hi zj.2 zi.1).1⟩
  exact Ext.congr (fun x => tells_all hts x) (ext i j hi hj hfin.1 hfin.2)
theorem truths_iff {h : Hd} {xs : List (Int × Int)} {ss : List Sett} (hv : validH h xs ss = true) : (truthsS h xs ss).1 = true ↔ ∃ x, Tru h.sLo h.sHi (tellsOf xs h.eLo h.eHi ss) x := by
  constructor
  · intro hb; exact (truths_yes hv hb).1
  · intro hx
    cases hb : (truthsS h xs ss).1
    · exact absurd hx (truths_no hv hb)
    · rfl

theorem sum_ok {h : Hd} {xs : List (Int × Int)} {ss : List Sett} (hv : validH h xs ss = true) (hx : ∃ x, Tru h.sLo h.sHi (tellsOf xs h.eLo h.eHi ss) x) :
    ∃ lo hi, sumA h xs ss = .ok (.agg #[.int .i64 lo, .int .i64 hi]) ∧ Ext (Tru h.sLo h.sHi (tellsOf xs h.eLo h.eHi ss)) 0 1 lo hi := by
  have hb := (truths_iff hv).2 hx
  obtain ⟨lo, hi, e, ex⟩ := (truths_yes hv hb).2 0 1 (by omega) (by omega) (fun a ha => .inl (by omega))
  refine ⟨lo, hi, ?_, ex⟩
  unfold sumA sumR
  rw [if_pos hv, if_pos hb, e]
theorem sum_clash {h : Hd} {xs : List (Int × Int)} {ss : List Sett} (hv : validH h xs ss = true) (hx : ¬∃ x, Tru h.sLo h.sHi (tellsOf xs h.eLo h.eHi ss) x) : sumA h xs ss = .error 10 := by
  have hb : ¬ (truthsS h xs ss).1 = true := fun h => hx ((truths_iff hv).1 h)
  unfold sumA sumR
  rw [if_pos hv, if_neg hb]
theorem place_range {h : Hd} {xs : List (Int × Int)} {ss : List Sett} (hv : validH h xs ss = true) {im : Int} (hi : isImg h.images im = false) : placeA h xs ss im = .error 2 := by
  unfold placeA placeR
  rw [if_pos hv, if_neg (by rw [hi]; decide)]
theorem place_clash {h : Hd} {xs : List (Int × Int)} {ss : List Sett} (hv : validH h xs ss = true) {im : Int} (hi : isImg h.images im = true) (hx : ¬∃ x, Tru h.sLo h.sHi (tellsOf xs h.eLo h.eHi ss) x) : placeA h xs ss im = .error 10 := by
  have hb : ¬ (truthsS h xs ss).1 = true := fun h => hx ((truths_iff hv).1 h)
  unfold placeA placeR
  rw [if_pos hv, if_pos hi, if_neg hb]
theorem place_doubt {h : Hd} {xs : List (Int × Int)} {ss : List Sett} (hv : validH h xs ss = true) {im : Int} (hi : isImg h.images im = true) (hx : ∃ x, Tru h.sLo h.sHi (tellsOf xs h.eLo h.eHi ss) x) (hc : hasC im (cntsOf ss) = false) : placeA h xs ss im = .error 12 := by
  have hb := (truths_iff hv).2 hx
  unfold placeA placeR
  rw [if_pos hv, if_pos hi, if_pos hb, if_neg (by rw [hc]; decide)]
theorem place_ok {h : Hd} {xs : List (Int × Int)} {ss : List Sett} (hv : validH h xs ss = true) {im : Int} (hi : isImg h.images im = true) (hx : ∃ x, Tru h.sLo h.sHi (tellsOf xs h.eLo h.eHi ss) x) (hc : hasC im (cntsOf ss) = true) :
    ∃ lo hi, placeA h xs ss im = .ok (.agg #[.int .i64 lo, .int .i64 hi]) ∧ Ext (Tru h.sLo h.sHi (tellsOf xs h.eLo h.eHi ss)) 0 (2 + im.toNat) lo hi := by
  have hb := (truths_iff hv).2 hx
  obtain ⟨k, rfl, hk⟩ := img_of hv hi
  have e0 : ((2 : Int) + (k : Int)).toNat = 2 + k := by omega
  obtain ⟨lo, hi', e, ex⟩ := (truths_yes hv hb).2 0 (2 + k) (by omega) (by omega) (fun a ha => by
    rcases ha with rfl | rfl
    · exact .inl (by omega)
    · exact .inr (.inl (by have : ((2 + k : Nat) : Int) - 2 = (k : Int) := by omega
                           rw [this]; exact hc)))
  refine ⟨lo, hi', ?_, ?_⟩
  · unfold placeA placeR
    rw [if_pos hv, if_pos hi, if_pos hb, if_pos hc, e0, e]
  · have : (k : Int).toNat = k := by omega
    rw [this]; exact ex
end Go.Proofs.YtcfjakifeihbpaaGreat

/- Of truths: the greater of two is one; each sum between both ends has one; places reach their ends with the ends of the sum. -/
namespace Go.Proofs.YtcfjakifeihbpaaGreat
open Fw Go.RowKit

theorem keeps_shift {t : Tell} {x : Nat → Int} (d : Int) (h : Keeps t x) : Keeps t (fun k => x k + d) := by
  unfold Keeps at *; split <;> rename_i hh
  · rw [if_pos hh] at h; dsimp only; omega
  · rw [if_neg hh] at h; dsimp only; omega
theorem keeps_max {t : Tell} {x y : Nat → Int} (h : Keeps t x) (k : Keeps t y) : Keeps t (fun i => max (x i) (y i)) := by
  unfold Keeps at *; split <;> rename_i hh
  · rw [if_pos hh] at h k; dsimp only; omega
  · rw [if_neg hh] at h k; dsimp only; omega
theorem keeps_min {t : Tell} {x y : Nat → Int} (h : Keeps t x) (k : Keeps t y) : Keeps t (fun i => min (x i) (y i)) := by
  unfold Keeps at *; split <;> rename_i hh
  · rw [if_pos hh] at h k; dsimp only; omega
  · rw [if_neg hh] at h k; dsimp only; omega
theorem tru_sum {sLo sHi n : Int} {ts : List Tell} (h : sLo ≤ n ∧ n ≤ sHi) (x : Nat → Int) : Tru n n ts x ↔ Tru sLo sHi ts x ∧ x 1 - x 0 = n := by
  unfold Tru
  constructor
  · rintro ⟨a, b⟩; exact ⟨⟨by omega, b⟩, by omega⟩
  · rintro ⟨⟨_, b⟩, c⟩; exact ⟨by omega, b⟩
theorem keeps_all_shift {ts : List Tell} {x : Nat → Int} (d : Int) (h : ∀ t ∈ ts, Keeps t x) : ∀ t ∈ ts, Keeps t (fun k => x k + d) := fun t ht => keeps_shift d (h t ht)

variable {sLo sHi lo hi : Int} {ts : List Tell}
theorem sum_within (h : Ext (Tru sLo sHi ts) 0 1 lo hi) : sLo ≤ lo ∧ lo ≤ hi ∧ hi ≤ sHi := by
  obtain ⟨a, ⟨x, hx, ex⟩, y, hy, ey⟩ := h
  have := a x hx; have := hx.1; have := hy.1
  omega
/-- Each sum between both ends has a truth. -/
theorem sum_each (h : Ext (Tru sLo sHi ts) 0 1 lo hi) {n : Int} (h1 : lo ≤ n) (h2 : n ≤ hi) : ∃ x, Tru n n ts x := by
  have hw := sum_within h
  obtain ⟨a, ⟨x, hx, ex⟩, y, hy, ey⟩ := h
  -- the places with the least sum, and those with the greatest one, brought down
  refine ⟨fun k => max (x k + -(x 0)) (y k + (n - hi - y 0)), (tru_sum (sLo := sLo) (sHi := sHi) (by omega) _).2 ⟨⟨?_, fun t ht => keeps_max (keeps_shift _ (hx.2 t ht)) (keeps_shift _ (hy.2 t ht))⟩, ?_⟩⟩
  · (try dsimp only); omega
  · (try dsimp only); omega
theorem sum_none (h : Ext (Tru sLo sHi ts) 0 1 lo hi) {n : Int} (hn : sLo ≤ n ∧ n ≤ sHi) (h1 : n < lo ∨ hi < n) : ¬∃ x, Tru n n ts x := by
  rintro ⟨x, hx⟩
  obtain ⟨h3, h4⟩ := (tru_sum hn x).1 hx
  have := h.1 x h3
  omega
variable {p q a b : Int} {j : Nat}
/-- With a sum alone a place is within what is told. -/
theorem place_in (h : Ext (Tru sLo sHi ts) 0 j p q) {n : Int} (hn : sLo ≤ n ∧ n ≤ sHi) (k : Ext (Tru n n ts) 0 j a b) : p ≤ a ∧ b ≤ q := by
  obtain ⟨_, ⟨x, hx, ex⟩, y, hy, ey⟩ := k
  have := h.1 x ((tru_sum hn x).1 hx).1
  have := h.1 y ((tru_sum hn y).1 hy).1
  omega
/-- The lower end is reached with the least sum. -/
theorem place_low (hs : Ext (Tru sLo sHi ts) 0 1 lo hi) (h : Ext (Tru sLo sHi ts) 0 j p q) (k : Ext (Tru lo lo ts) 0 j a b) : a = p := by
  have hw := sum_within hs
  have hin := place_in h (by omega) k
  obtain ⟨_, ⟨x, hx, ex⟩, _⟩ := h
  obtain ⟨hb, ⟨y, hy, ey⟩, _⟩ := hs
  have hz : Tru lo lo ts (fun i => min (x i + -(x 0)) (y i + -(y 0))) := by
    refine (tru_sum (sLo := sLo) (sHi := sHi) (by omega) _).2 ⟨⟨?_, fun t ht => keeps_min (keeps_shift _ (hx.2 t ht)) (keeps_shift _ (hy.2 t ht))⟩, ?_⟩
    · have := hx.1; have := hy.1; (try dsimp only); omega
    · have := hb x hx; (try dsimp only); omega
  have := k.1 _ hz
  (try dsimp only at this)
  omega
/-- The upper end is reached with the greatest sum. -/
theorem place_high (hs : Ext (Tru sLo sHi ts) 0 1 lo hi) (h : Ext (Tru sLo sHi ts) 0 j p q) (k : Ext (Tru hi hi ts) 0 j a b) : b = q := by
  have hw := sum_within hs
  have hin := place_in h (by omega) k
  obtain ⟨_, _, x, hx, ex⟩ := h
  obtain ⟨hb, _, y, hy, ey⟩ := hs
  have hz : Tru hi hi ts (fun i => max (x i + -(x 0)) (y i + -(y 0))) := by
    refine (tru_sum (sLo := sLo) (sHi := sHi) (by omega) _).2 ⟨⟨?_, fun t ht => keeps_max (keeps_shift _ (hx.2 t ht)) (keeps_shift _ (hy.2 t ht))⟩, ?_⟩
    · have := hx.1; have := hy.1; (try dsimp only); omega
    · have := hb x hx; (try dsimp only); omega
  have := k.1 _ hz
  (try dsimp only at this)
  omega
/-- A measure whose sum is known. -/
def withN (h : Hd) (n : Int) : Hd := ⟨h.a, h.n, h.cap, h.eLo, h.eHi, h.images, n, n, h.sa, h.ns, h.scap⟩
theorem withN_valid {h : Hd} {xs : List (Int × Int)} {ss : List Sett} (hv : validH h xs ss = true) {n : Int} (hn : h.sLo ≤ n ∧ n ≤ h.sHi) : validH (withN h n) xs ss = true := by
  obtain ⟨a, b, c, d, e, f, g⟩ := valid_has hv
  exact valid_iff.2 ⟨a, b, c, d, by simp only [withN]; omega, f, g⟩
end Go.Proofs.YtcfjakifeihbpaaGreat
