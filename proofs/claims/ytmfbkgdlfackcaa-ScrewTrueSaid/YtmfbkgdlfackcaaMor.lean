/- ScrewMore: with a setting more, or a narrower eye or sum, nothing is wider. -/
import Derived.Test.YtmfbkgdlfackcaaCmf
import Derived.Test.YtmfbkgdlfackcaaPam
namespace Go.Proofs.Ytmfbkgdlfackcaa
open Fw Go.RowKit

theorem Ext.within {S S' : (Nat → Int) → Prop} {i j : Nat} {lo hi lo' hi' : Int} (hs : ∀ x, S' x → S x) (h : Ext S i j lo hi) (h' : Ext S' i j lo' hi') : lo ≤ lo' ∧ hi' ≤ hi := by
  obtain ⟨_, ⟨x, hx, ex⟩, y, hy, ey⟩ := h'
  have := h.1 x (hs x hx)
  have := h.1 y (hs y hy)
  omega
/-- One measure tells all that another one does. -/
structure Tells2 (z : Hd) (zx : List (Int × Int)) (zs : List Sett) (h : Hd) (xs : List (Int × Int)) (ss : List Sett) : Prop where
  vz : validH z zx zs = true
  vh : validH h xs ss = true
  im : z.images = h.images
  tru : ∀ x, Tru z.sLo z.sHi (tellsOf zx z.eLo z.eHi zs) x → Tru h.sLo h.sHi (tellsOf xs h.eLo h.eHi ss) x
  seen : ∀ i, hasC i (cntsOf ss) = true → hasC i (cntsOf zs) = true
section
variable {z h : Hd} {zx xs : List (Int × Int)} {zs ss : List Sett}
/-- The sum. -/
theorem more_sum (k : Tells2 z zx zs h xs ss) : sumA z zx zs = .error 10 ∨ ∃ lo hi lo' hi' : Int, sumA z zx zs = .ok (.agg #[.int .i64 lo', .int .i64 hi']) ∧ sumA h xs ss = .ok (.agg #[.int .i64 lo, .int .i64 hi]) ∧ (lo ≤ lo' ∧ hi' ≤ hi) ∧
    ∃ x, Tru z.sLo z.sHi (tellsOf zx z.eLo z.eHi zs) x := by
  by_cases hx : ∃ x, Tru z.sLo z.sHi (tellsOf zx z.eLo z.eHi zs) x
  · obtain ⟨lo', hi', e', x'⟩ := sum_ok k.vz hx
    obtain ⟨lo, hi, e, x⟩ := sum_ok k.vh (by obtain ⟨x, hx⟩ := hx; exact ⟨x, k.tru x hx⟩)
    exact .inr ⟨lo, hi, lo', hi', e', e, Ext.within k.tru x x', hx⟩
  · exact .inl (sum_clash k.vz hx)
/-- A place that is told is told within. -/
theorem more_place (k : Tells2 z zx zs h xs ss) (hx : ∃ x, Tru z.sLo z.sHi (tellsOf zx z.eLo z.eHi zs) x) {a : Int} {v : Value} (hp : placeA h xs ss a = .ok v) :
    ∃ lo hi lo' hi' : Int, v = .agg #[.int .i64 lo, .int .i64 hi] ∧ placeA z zx zs a = .ok (.agg #[.int .i64 lo', .int .i64 hi']) ∧ lo ≤ lo' ∧ hi' ≤ hi := by
  have hxh : ∃ x, Tru h.sLo h.sHi (tellsOf xs h.eLo h.eHi ss) x := by obtain ⟨x, hx⟩ := hx; exact ⟨x, k.tru x hx⟩
  cases hi : isImg h.images a
  · rw [place_range k.vh hi] at hp; cases hp
  · cases hc : hasC a (cntsOf ss)
    · rw [place_doubt k.vh hi hxh hc] at hp; cases hp
    · obtain ⟨lo, hi', e, x⟩ := place_ok k.vh hi hxh hc
      obtain ⟨lo2, hi2, e2, x2⟩ := place_ok k.vz (by rw [k.im]; exact hi) hx (k.seen a hc)
      rw [e] at hp
      injection hp with hp
      have := Ext.within k.tru x x2
      exact ⟨lo, hi', lo2, hi2, hp.symm, e2, this.1, this.2⟩
theorem more_apart (k : Tells2 z zx zs h xs ss) (hx : ∃ x, Tru z.sLo z.sHi (tellsOf zx z.eLo z.eHi zs) x) {a b : Int} {v : Value} (hp : apartA h xs ss a b = .ok v) :
    ∃ lo hi lo' hi' : Int, v = .agg #[.int .i64 lo, .int .i64 hi] ∧ apartA z zx zs a b = .ok (.agg #[.int .i64 lo', .int .i64 hi']) ∧ lo ≤ lo' ∧ hi' ≤ hi := by
  have hxh : ∃ x, Tru h.sLo h.sHi (tellsOf xs h.eLo h.eHi ss) x := by obtain ⟨x, hx⟩ := hx; exact ⟨x, k.tru x hx⟩
  by_cases hi : isImg h.images a = true ∧ isImg h.images b = true
  · obtain ⟨ha, hb⟩ := hi
    by_cases hc : a = b ∨ (hasC a (cntsOf ss) = true ∧ hasC b (cntsOf ss) = true)
    · obtain ⟨lo, hi', e, x⟩ := apart_ok k.vh ha hb hxh hc
      obtain ⟨lo2, hi2, e2, x2⟩ := apart_ok k.vz (by rw [k.im]; exact ha) (by rw [k.im]; exact hb) hx (hc.imp id fun h => ⟨k.seen a h.1, k.seen b h.2⟩)
      rw [e] at hp
      injection hp with hp
      have := Ext.within k.tru x x2
      exact ⟨lo, hi', lo2, hi2, hp.symm, e2, this.1, this.2⟩
    · rw [apart_doubt k.vh ha hb hxh (fun e => hc (.inl e)) (fun e => hc (.inr e))] at hp; cases hp
  · rw [apart_range k.vh hi] at hp; cases hp
/-- How far images are apart is told at least as exactly as by their places. -/
theorem apart_places (hv : validH h xs ss = true) {a b : Int} (hab : a ≠ b) {v : Value} (hp : apartA h xs ss a b = .ok v) :
    ∃ dl dh pl ph ql qh : Int, v = .agg #[.int .i64 dl, .int .i64 dh] ∧ placeA h xs ss a = .ok (.agg #[.int .i64 pl, .int .i64 ph]) ∧ placeA h xs ss b = .ok (.agg #[.int .i64 ql, .int .i64 qh]) ∧ ql - ph ≤ dl ∧ dh ≤ qh - pl := by
  by_cases hx : ∃ x, Tru h.sLo h.sHi (tellsOf xs h.eLo h.eHi ss) x
  · by_cases hi : isImg h.images a = true ∧ isImg h.images b = true
    · obtain ⟨ha, hb⟩ := hi
      by_cases hc : hasC a (cntsOf ss) = true ∧ hasC b (cntsOf ss) = true
      · obtain ⟨dl, dh, e, x⟩ := apart_ok hv ha hb hx (.inr hc)
        obtain ⟨pl, ph, e1, x1⟩ := place_ok hv ha hx hc.1
        obtain ⟨ql, qh, e2, x2⟩ := place_ok hv hb hx hc.2
        rw [e] at hp
        injection hp with hp
        obtain ⟨_, ⟨y, hy, ey⟩, w, hw, ew⟩ := x
        have := x1.1 y hy; have := x2.1 y hy; have := x1.1 w hw; have := x2.1 w hw
        exact ⟨dl, dh, pl, ph, ql, qh, hp.symm, e1, e2, by omega, by omega⟩
      · rw [apart_doubt hv ha hb hx hab hc] at hp; cases hp
    · rw [apart_range hv hi] at hp; cases hp
  · by_cases hi : isImg h.images a = true ∧ isImg h.images b = true
    · rw [apart_clash hv hi.1 hi.2 hx] at hp; cases hp
    · rw [apart_range hv hi] at hp; cases hp
/-- With a setting more. -/
theorem more_set (hv : validH h xs ss = true) {s : Sett} (hz : validH z xs (ss ++ [s]) = true) (e1 : z.eLo = h.eLo) (e2 : z.eHi = h.eHi) (e3 : z.images = h.images) (e4 : z.sLo = h.sLo) (e5 : z.sHi = h.sHi) :
    Tells2 z xs (ss ++ [s]) h xs ss := by
  refine ⟨hz, hv, e3, fun x hx => ?_, fun i hi => ?_⟩
  · rw [e1, e2, e4, e5] at hx
    refine ⟨hx.1, fun t ht => hx.2 t ?_⟩
    unfold tellsOf at ht ⊢
    rw [List.map_append]
    exact List.mem_append_left _ ht
  · rw [hasC_cnts] at hi ⊢
    rw [List.any_append, hi]; rfl
/-- With a narrower eye, and a narrower sum. -/
theorem more_narrow (hv : validH h xs ss = true) (hz : validH z xs ss = true) (e1 : h.eLo ≤ z.eLo) (e2 : z.eHi ≤ h.eHi) (e3 : z.images = h.images) (e4 : h.sLo ≤ z.sLo) (e5 : z.sHi ≤ h.sHi) : Tells2 z xs ss h xs ss := by
  obtain ⟨a, b, c, d, e, f, g⟩ := valid_has hv
  obtain ⟨a', b', c', d', e', f', g'⟩ := valid_has hz
  refine ⟨hz, hv, e3, fun x hx => ?_, fun i hi => hi⟩
  obtain ⟨h1, h2⟩ := hx
  refine ⟨by omega, fun t ht => ?_⟩
  obtain ⟨s, hs, rfl⟩ := List.mem_map.1 ht
  have hk := h2 _ (List.mem_map.2 ⟨s, hs, rfl⟩)
  obtain ⟨g1, g2, g3⟩ := g s hs
  have hkk : (s.2.1 / 1000).toNat < xs.length := by omega
  obtain ⟨v1, v2, v3⟩ := evB_at b hkk
  unfold Keeps tellOf at hk ⊢
  dsimp only at hk ⊢
  rw [trav_eq (by omega) (by omega) (by omega), trav_eq (by omega) (by omega) (by omega)] at hk ⊢
  split
  · rename_i hr; rw [if_pos hr] at hk; omega
  · rename_i hr; rw [if_neg hr] at hk; omega
/-- No fewer must be wrong. -/
theorem more_drop_set (hv : validH h xs ss = true) {s : Sett} (hz : validH z xs (ss ++ [s]) = true) (e1 : z.eLo = h.eLo) (e2 : z.eHi = h.eHi) (e4 : z.sLo = h.sLo) (e5 : z.sHi = h.sHi) :
    popc (dropR h xs ss) ≤ popc (dropR z xs (ss ++ [s])) := by
  obtain ⟨a, b, c, d, e, f, g⟩ := valid_has hv
  obtain ⟨a', b', c', d', e', f', g'⟩ := valid_has hz
  have hl : (ss ++ [s]).length = ss.length + 1 := by simp
  rw [hl] at f'
  obtain ⟨q, q1, q2, q3, q5⟩ := drop_best hv
  obtain ⟨r, r1, r2, r3, _⟩ := drop_best hz
  rw [hl] at r2 r3
  obtain ⟨p1, p2, p3⟩ := pow_12 f
  obtain ⟨p1', p2', p3'⟩ := pow_12 f'
  have hrm : r % 2 ^ ss.length < 2 ^ ss.length := Nat.mod_lt _ (by omega)
  have t1 : (2 : Int) ^ (ss.length + 1) - 1 - (r : Int) = ((2 ^ (ss.length + 1) - (r + 1) : Nat) : Int) := by omega
  have t2 : (2 : Int) ^ ss.length - 1 - ((r % 2 ^ ss.length : Nat) : Int) = ((2 ^ ss.length - (r % 2 ^ ss.length + 1) : Nat) : Int) := by omega
  have hcan : canB h xs ss (2 ^ ss.length - 1 - ((r % 2 ^ ss.length : Nat) : Int)) = true := by
    rw [t1] at r3
    rw [t2]
    obtain ⟨x, x1, x2⟩ := (canB_iff hz _).1 r3
    rw [e4, e5] at x1
    refine (canB_iff hv _).2 ⟨x, x1, fun j hj hb => ?_⟩
    rw [len_tells] at hj
    rw [hasB_test, Nat.testBit_two_pow_sub_succ hrm, Nat.testBit_mod_two_pow] at hb
    have hb2 : hasB ((2 ^ (ss.length + 1) - (r + 1) : Nat) : Int) j = true := by
      rw [hasB_test, Nat.testBit_two_pow_sub_succ r2, decide_eq_true (show j < ss.length + 1 by omega)]
      rw [decide_eq_true hj] at hb
      simpa using hb
    have hjz : j < (tellsOf xs z.eLo z.eHi (ss ++ [s])).length := by rw [len_tells, hl]; omega
    have := x2 j hjz hb2
    rw [tells_get (by rw [hl]; omega)] at this
    rw [tells_get hj]
    have e6 : (ss ++ [s]).getD j (0, 0, false) = ss.getD j (0, 0, false) := by simp [List.getD, List.getElem?_append_left hj]
    rw [e6, e1, e2] at this
    exact this
  have h1 := q5 _ hrm hcan
  have h2 := (sizeF_mono 12 r (r % 2 ^ ss.length) (fun i _ hb => by rw [Nat.testBit_mod_two_pow] at hb; simp at hb; exact hb.2)).1
  rw [sizeF_popc (by omega), sizeF_popc (by omega)] at h2
  rw [q1, r1]
  omega
theorem more_drop_narrow (hv : validH h xs ss = true) (hz : validH z xs ss = true) (e1 : h.eLo ≤ z.eLo) (e2 : z.eHi ≤ h.eHi) (e4 : h.sLo ≤ z.sLo) (e5 : z.sHi ≤ h.sHi) : popc (dropR h xs ss) ≤ popc (dropR z xs ss) := by
  obtain ⟨a, b, c, d, e, f, g⟩ := valid_has hv
  obtain ⟨a', b', c', d', e', f', g'⟩ := valid_has hz
  obtain ⟨q, q1, q2, q3, q5⟩ := drop_best hv
  obtain ⟨r, r1, r2, r3, _⟩ := drop_best hz
  have hcan : canB h xs ss (2 ^ ss.length - 1 - (r : Int)) = true := by
    obtain ⟨x, x1, x2⟩ := (canB_iff hz _).1 r3
    refine (canB_iff hv _).2 ⟨x, by omega, fun j hj hb => ?_⟩
    rw [len_tells] at hj
    have hk := x2 j (by rw [len_tells]; exact hj) hb
    rw [tells_get hj] at hk ⊢
    have hs : ss.getD j (0, 0, false) ∈ ss := by simp [List.getD, hj]
    obtain ⟨g1, g2, g3⟩ := g _ hs
    have hkk : ((ss.getD j (0, 0, false)).2.1 / 1000).toNat < xs.length := by omega
    obtain ⟨v1, v2, v3⟩ := evB_at b hkk
    unfold Keeps tellOf at hk ⊢
    dsimp only at hk ⊢
    rw [trav_eq (by omega) (by omega) (by omega), trav_eq (by omega) (by omega) (by omega)] at hk ⊢
    split
    · rename_i hr; rw [if_pos hr] at hk; omega
    · rename_i hr; rw [if_neg hr] at hk; omega
  rw [q1, r1]
  rcases q5 r r2 hcan with h | ⟨h, _⟩ <;> omega
end
end Go.Proofs.Ytmfbkgdlfackcaa
