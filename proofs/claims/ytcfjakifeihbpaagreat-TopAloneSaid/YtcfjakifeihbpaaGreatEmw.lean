/- Eye: a watch's ties, as mathematics has them. -/
import Derived.Test.YtcfjakifeihbpaaGreatEcg
namespace Go.Proofs.YtcfjakifeihbpaaGreat
namespace Ey
open Go.RowKit Nb

def habS (h : Wd) (H : Int) (e : Nat) : Int × Int := if setI H e then (h.hLo, h.hHi) else (0, 0)
def lkAt (ls : List LkV) (ts : List (Int × Int)) (k : Nat) : Lk := ⟨(ls.getD k (0, 0, 0)).1.toNat, (ls.getD k (0, 0, 0)).2.1.toNat, (ts.getD k (0, 0)).1, (ts.getD k (0, 0)).2⟩
def lksOf (ls : List LkV) (ts : List (Int × Int)) (S : Int) : List Lk := ((List.range ls.length).filter (setI S)).map (lkAt ls ts)
theorem tiesV_eq (h : Wd) (ts : List (Int × Int)) (ls : List LkV) (E : Nat) (S H : Int) : (tiesV h ts ls E S H).map tiOf = tiesW E (habS h H) (lksOf ls ts S) := by
  unfold tiesV tvE tvL tiesW lksOf
  rw [List.map_append, List.map_map, List.map_map, List.map_map]
  rfl
theorem WOk.wok {h : Wd} {ts : List (Int × Int)} {ls : List LkV} {E : Nat} (k : WOk h ts ls E) (S : Int) : Wok E (lksOf ls ts S) := by
  refine ⟨k.e4, fun l hl => ?_, fun l hl => ?_⟩
  · obtain ⟨j, hj, rfl⟩ := List.mem_map.1 hl
    have := k.ey j (List.mem_range.1 (List.mem_filter.1 hj).1)
    show (ls.getD j (0, 0, 0)).1.toNat < E
    omega
  · obtain ⟨j, hj, rfl⟩ := List.mem_map.1 hl
    have := k.im j (List.mem_range.1 (List.mem_filter.1 hj).1)
    show (ls.getD j (0, 0, 0)).2.1.toNat < 6
    omega
/-- A truth, if the looks of a set count and the measurers of a set can have habits. -/
structure TrS (h : Wd) (ts : List (Int × Int)) (ls : List LkV) (E : Nat) (S H : Int) (x : Nat → Int) : Prop where
  hab : ∀ e, e < E → (habS h H e).1 ≤ x (1 + e) - x 0 ∧ x (1 + e) - x 0 ≤ (habS h H e).2
  look : ∀ k, k < ls.length → setI S k = true → (ts.getD k (0, 0)).1 ≤ x (5 + (ls.getD k (0, 0, 0)).2.1.toNat) - x (1 + (ls.getD k (0, 0, 0)).1.toNat) ∧ x (5 + (ls.getD k (0, 0, 0)).2.1.toNat) - x (1 + (ls.getD k (0, 0, 0)).1.toNat) ≤ (ts.getD k (0, 0)).2
theorem trS_iff {h : Wd} {ts : List (Int × Int)} {ls : List LkV} {E : Nat} {S H : Int} {x : Nat → Int} : Tr (tiesW E (habS h H) (lksOf ls ts S)) x ↔ TrS h ts ls E S H x := by
  rw [trW]
  constructor
  · rintro ⟨a, b⟩
    exact ⟨a, fun k hk hs => b (lkAt ls ts k) (List.mem_map.2 ⟨k, List.mem_filter.2 ⟨List.mem_range.2 hk, hs⟩, rfl⟩)⟩
  · rintro ⟨a, b⟩
    refine ⟨a, fun l hl => ?_⟩
    obtain ⟨k, hk, rfl⟩ := List.mem_map.1 hl
    obtain ⟨h1, h2⟩ := List.mem_filter.1 hk
    exact b k (List.mem_range.1 h1) h2
/-- What number a one has that is known of. -/
def inS (ls : List LkV) (E : Nat) (S : Int) (k : Nat) : Prop := k = 0 ∨ (∃ e, e < E ∧ k = 1 + e) ∨ ∃ j, j < ls.length ∧ setI S j = true ∧ k = 5 + (ls.getD j (0, 0, 0)).2.1.toNat
theorem inS_iff {ls : List LkV} {ts : List (Int × Int)} {E : Nat} {S : Int} {k : Nat} : inC E (lksOf ls ts S) k ↔ inS ls E S k := by
  unfold inC inS
  constructor
  · rintro (h | h | ⟨l, hl, h⟩)
    · exact .inl h
    · exact .inr (.inl h)
    · obtain ⟨j, hj, rfl⟩ := List.mem_map.1 hl
      obtain ⟨h1, h2⟩ := List.mem_filter.1 hj
      exact .inr (.inr ⟨j, List.mem_range.1 h1, h2, h⟩)
  · rintro (h | h | ⟨j, hj, hs, h⟩)
    · exact .inl h
    · exact .inr (.inl h)
    · exact .inr (.inr ⟨lkAt ls ts j, List.mem_map.2 ⟨j, List.mem_filter.2 ⟨List.mem_range.2 hj, hs⟩, rfl⟩, h⟩)
/-- Both ends are reached, and nothing lies beyond them. -/
structure EndsS (h : Wd) (ts : List (Int × Int)) (ls : List LkV) (E : Nat) (S H : Int) (base k : Nat) (s : Int × Int) : Prop where
  all : ∀ x, TrS h ts ls E S H x → s.1 ≤ x k - x base ∧ x k - x base ≤ s.2
  lo : ∃ x, TrS h ts ls E S H x ∧ x k - x base = s.1
  hi : ∃ x, TrS h ts ls E S H x ∧ x k - x base = s.2
section
variable {h : Wd} {ts : List (Int × Int)} {ls : List LkV} {E : Nat} {S H : Int} {base : Nat}
theorem ov_yes (k : WOk h ts ls E) (hb : isBase E base) {x : Nat → Int} (hx : TrS h ts ls E S H x) : ∃ b, ovB h ts ls E S H base = some b := by
  unfold ovB
  rw [tiesV_eq]
  exact overW_yes (k.wok S) hb (trS_iff.2 hx)
theorem ov_some (k : WOk h ts ls E) (hb : isBase E base) {b : B} (ho : ovB h ts ls E S H base = some b) :
    (∃ x, TrS h ts ls E S H x) ∧ (∀ j, inS ls E S j → ∃ s, b j = some s ∧ EndsS h ts ls E S H base j s) ∧ ∀ j, ¬ inS ls E S j → b j = none := by
  unfold ovB at ho
  rw [tiesV_eq] at ho
  obtain ⟨⟨x, hx⟩, h1, h2⟩ := overW_some (k.wok S) hb ho
  refine ⟨⟨x, trS_iff.1 hx⟩, fun j hj => ?_, fun j hj => h2 j (fun hc => hj (inS_iff.1 hc))⟩
  obtain ⟨s, hs, a, ⟨y, hy, ey⟩, z, hz, ez⟩ := h1 j (inS_iff.2 hj)
  exact ⟨s, hs, fun x hx => a x (trS_iff.2 hx), ⟨y, trS_iff.1 hy, ey⟩, z, trS_iff.1 hz, ez⟩
theorem can_iff (k : WOk h ts ls E) : canW h ts ls E S H = true ↔ ∃ x, TrS h ts ls E S H x := by
  unfold canW
  constructor
  · intro hc
    cases ho : ovB h ts ls E S H 0 with
    | none => rw [ho] at hc; cases hc
    | some b => exact (ov_some k (.inl rfl) ho).1
  · rintro ⟨x, hx⟩
    obtain ⟨b, hb⟩ := ov_yes k (.inl rfl) hx
    rw [hb]; rfl
theorem ov_none (k : WOk h ts ls E) (hb : isBase E base) : ovB h ts ls E S H base = none ↔ canW h ts ls E S H = false := by
  cases ho : ovB h ts ls E S H base with
  | none =>
    refine ⟨fun _ => ?_, fun _ => rfl⟩
    cases hc : canW h ts ls E S H
    · rfl
    · obtain ⟨x, hx⟩ := (can_iff k).1 hc
      obtain ⟨b, hb⟩ := ov_yes k hb hx
      rw [hb] at ho; cases ho
  | some b =>
    refine ⟨fun e => (by cases e), fun hc => ?_⟩
    have := (can_iff k).2 (ov_some k hb ho).1
    rw [this] at hc; cases hc
end
theorem EndsS.unique {h h' : Wd} {ts ts' : List (Int × Int)} {ls ls' : List LkV} {E E' : Nat} {S S' H H' : Int} {base base' j j' : Nat} {s s' : Int × Int} (a : EndsS h ts ls E S H base j s) (b : EndsS h' ts' ls' E' S' H' base' j' s')
    (f : ∀ x, TrS h ts ls E S H x → ∃ y, TrS h' ts' ls' E' S' H' y ∧ y j' - y base' = x j - x base) (g : ∀ y, TrS h' ts' ls' E' S' H' y → ∃ x, TrS h ts ls E S H x ∧ x j - x base = y j' - y base') : s = s' := by
  obtain ⟨x, hx, ex⟩ := a.lo
  obtain ⟨y, hy, ey⟩ := a.hi
  obtain ⟨x', hx', ex'⟩ := b.lo
  obtain ⟨y', hy', ey'⟩ := b.hi
  obtain ⟨p, hp, ep⟩ := f x hx
  obtain ⟨q, hq, eq⟩ := f y hy
  obtain ⟨p', hp', ep'⟩ := g x' hx'
  obtain ⟨q', hq', eq'⟩ := g y' hy'
  have h1 := b.all p hp; have h2 := b.all q hq; have h3 := a.all p' hp'; have h4 := a.all q' hq'
  ext <;> omega
end Ey
end Go.Proofs.YtcfjakifeihbpaaGreat
