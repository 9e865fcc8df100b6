/- Eye: what is known of a valid watch. -/
import Derived.Test.YtcfjakifeihbpaaGreatEct
namespace Go.Proofs.YtcfjakifeihbpaaGreat
namespace Ey
open Go.RowKit Nb

theorem hold_iff {a b c d : Int} : holdB a b c d = true ↔ a ≤ c ∧ c ≤ d ∧ d ≤ b := by
  unfold holdB
  simp [and_assoc]
theorem img_iff {n i : Int} : isImg n i = true ↔ 0 ≤ i ∧ i < n := by
  unfold isImg
  simp
structure VW (h : Wd) (xs : List (Int × Int)) (ls : List LkV) : Prop where
  sc : validB xs h.eLo h.eHi = true
  im : 1 ≤ h.images ∧ h.images ≤ 6
  ey : 1 ≤ h.eyes ∧ h.eyes ≤ 4
  hb : -200 ≤ h.hLo ∧ h.hLo ≤ 0 ∧ 0 ≤ h.hHi ∧ h.hHi ≤ 200
  l12 : ls.length ≤ 12
  lk : ∀ l ∈ ls, (0 ≤ l.1 ∧ l.1 < h.eyes) ∧ (0 ≤ l.2.1 ∧ l.2.1 < h.images) ∧ saysB xs h.eLo h.eHi l.2.2 = true
theorem validW_iff {h : Wd} {xs : List (Int × Int)} {ls : List LkV} (hv : validW h xs ls = true) : VW h xs ls := by
  unfold validW at hv
  simp only [Bool.and_eq_true, decide_eq_true_eq, hold_iff] at hv
  obtain ⟨⟨⟨⟨⟨⟨a, b⟩, c⟩, d⟩, e⟩, f⟩, g⟩ := hv
  refine ⟨?_, by omega, by omega, by omega, f, fun l hl => ?_⟩
  · unfold saysB at a
    rw [Bool.and_eq_true] at a
    exact a.1
  · have := List.all_eq_true.1 g l hl
    unfold lookB at this
    rw [Bool.and_eq_true, Bool.and_eq_true, img_iff, img_iff] at this
    exact ⟨this.1.1, this.1.2, this.2⟩
theorem ev_get {xs : List (Int × Int)} (h : evB (-100) 100 xs = true) (k : Nat) : (-100 ≤ (xs.getD k (0, 0)).1 ∧ (xs.getD k (0, 0)).1 ≤ 100) ∧ -100 ≤ (xs.getD k (0, 0)).2 ∧ (xs.getD k (0, 0)).2 ≤ 100 := by
  by_cases hk : k < xs.length
  · have e : xs.getD k (0, 0) = xs[k] := by simp [List.getD, hk]
    have := List.all_eq_true.1 h xs[k] (List.getElem_mem hk)
    rw [hold_iff] at this
    rw [e]; omega
  · have e : xs.getD k (0, 0) = (0, 0) := by simp [List.getD, hk]
    rw [e]; simp
theorem trav_eq {r lo eLo : Int} (h : -1000000 ≤ r ∧ r ≤ 1000000) (h1 : -1000 ≤ lo ∧ lo ≤ 1000) (h2 : -1000 ≤ eLo ∧ eLo ≤ 1000) : trav r lo eLo = r + lo + eLo := by
  unfold trav wrap64
  omega
theorem wok_of {h : Wd} {xs : List (Int × Int)} {ls : List LkV} {E : Nat} (hv : validW h xs ls = true) (hn : ls.length = h.ln) (hE : h.eyes = (E : Int)) : WOk h (ls.map (travOf h xs)) ls E := by
  obtain ⟨a, b, c, d, e, f⟩ := validW_iff hv
  have hg : ∀ k, k < ls.length → ls.getD k (0, 0, 0) ∈ ls := fun k hk => by
    have : ls.getD k (0, 0, 0) = ls[k] := by simp [List.getD, hk]
    rw [this]; exact List.getElem_mem hk
  refine ⟨hn, by simp, e, hE, by omega, fun k hk => ?_, fun k hk => ?_, by omega, fun k => ?_⟩
  · have := (f _ (hg k hk)).1; omega
  · have := (f _ (hg k hk)).2.1; omega
  · by_cases hk : k < ls.length
    · have e1 : (ls.map (travOf h xs)).getD k (0, 0) = travOf h xs (ls.getD k (0, 0, 0)) := by simp [List.getD, hk]
      rw [e1]
      have hs := (f _ (hg k hk)).2.2
      generalize ls.getD k (0, 0, 0) = l at hs
      unfold saysB at hs
      rw [Bool.and_eq_true] at hs
      obtain ⟨s1, s2⟩ := hs
      unfold validB at s1
      rw [Bool.and_eq_true, Bool.and_eq_true, hold_iff, hold_iff] at s1
      obtain ⟨⟨q1, q2⟩, q3⟩ := s1
      unfold hasTrn at s2
      simp only [Bool.and_eq_true, decide_eq_true_eq] at s2
      obtain ⟨⟨x1, x2⟩, x3, x4⟩ := ev_get q2 (l.2.2 / 1000).toNat
      unfold travOf
      dsimp only
      rw [trav_eq (by omega) (by omega) (by omega), trav_eq (by omega) (by omega) (by omega)]
      omega
    · have e1 : (ls.map (travOf h xs)).getD k (0, 0) = (0, 0) := by simp [List.getD, hk]
      rw [e1]; simp
/-- What is told of one, or the refusal. -/
def askR (r : Option B) (k : Nat) : Except Int Value :=
  match r with
  | none => .error 10
  | some b => match b k with
    | none => .error 12
    | some s => .ok (.agg #[.int .i64 s.1, .int .i64 s.2])
/-- The bounds of all truths over a base. -/
def ovW (h : Wd) (xs : List (Int × Int)) (ls : List LkV) (base : Nat) : Option B := ovB h (ls.map (travOf h xs)) ls h.eyes.toNat (allS ls.length) (allS h.eyes.toNat) base
def habitR (h : Wd) (xs : List (Int × Int)) (ls : List LkV) (i : Int) : Except Int Value := if validW h xs ls then if isImg h.eyes i then askR (ovW h xs ls 0) (1 + i.toNat) else .error 2 else .error 1
def placeR (h : Wd) (xs : List (Int × Int)) (ls : List LkV) (i : Int) : Except Int Value := if validW h xs ls then if isImg h.images i then askR (ovW h xs ls 0) (5 + i.toNat) else .error 2 else .error 1
def betweenR (h : Wd) (xs : List (Int × Int)) (ls : List LkV) (i j : Int) : Except Int Value := if validW h xs ls then if isImg h.eyes i then if isImg h.eyes j then askR (ovW h xs ls (1 + i.toNat)) (1 + j.toNat) else .error 2 else .error 2 else .error 1
/-- The box of a watch. -/
structure BoxA (X : World) (B : Nat) (h : Wd) (xs : List (Int × Int)) (ls : List LkV) : Prop where
  box : BoxW X B h
  has : HasW X h xs ls
theorem BoxA.grown {X X' : World} {B : Nat} {h : Wd} {xs : List (Int × Int)} {ls : List LkV} (k : BoxA X B h xs ls) (hb : Below X.heap.size X X') : BoxA X' B h xs ls := ⟨k.box.grown hb, k.has.below hb⟩
/-- One look at what is told of one: the bounds, and then one of them. -/
theorem ask_any (w0 : World) (L E : Nat) (h : Wd) (tv : Value) (ts : List (Int × Int)) (ls : List LkV) (base : One) (hbn : base.num < 11) (k : WOk h ts ls E) (x : One) (hx : x.num < 11) (w : World) (hI : IsW w0 w L h tv ts) (hlk : LooksIn w h.la ls) :
    Calls Tryz.prog 41 #[.pointer (some ⟨L, 0, none⟩), base.val] w (fun e w' => Below w.heap.size w w' ∧ match ovB h ts ls E (allS ls.length) (allS E) base.num with
      | none => Pan 10 w e w'
      | some _ => ∃ v, e = .returned v ∧ ∀ Y, Below w'.heap.size w' Y → Calls Tryz.prog 42 #[v, x.val] Y (Out (askR (ovB h ts ls E (allS ls.length) (allS E) base.num) x.num) Y)) := by
  refine (truths_any w0 L E h tv ts ls base hbn k w hI hlk).mono ?_
  intro e w' hr
  generalize ovB h ts ls E (allS ls.length) (allS E) base.num = r at hr ⊢
  cases r with
  | none => exact ⟨hr.2, hr⟩
  | some b =>
    obtain ⟨mb, n, rfl, hown, hB⟩ := hr
    refine ⟨hB, _, rfl, fun Y hY => ?_⟩
    have hown2 : OwnB Y mb n b := hown.kept (grown_below hY none) (by simp)
    unfold askR
    dsimp only
    cases hs : b x.num with
    | none => exact of_no mb n b x Y hown2 hx hs
    | some s => exact of_yes mb n b x s Y hown2 hx hs
end Ey
end Go.Proofs.YtcfjakifeihbpaaGreat
