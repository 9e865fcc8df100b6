/- Eye: whether the looks of a set can be right; the bounds of all truths. -/
import Derived.Test.YtcfjakifeihbpaaGreatEti
namespace Go.Proofs.YtcfjakifeihbpaaGreat
namespace Ey
open Go.RowKit Nb

theorem flat_tie (l : List TieV) : ∀ k, k < l.length → (l.flatMap tieV)[k * 4]? = some (l.getD k (.z, .z, 0, 0)).1.val ∧ (l.flatMap tieV)[k * 4 + 1]? = some (l.getD k (.z, .z, 0, 0)).2.1.val ∧ (l.flatMap tieV)[k * 4 + 2]? = some (.int .i64 (l.getD k (.z, .z, 0, 0)).2.2.1) ∧ (l.flatMap tieV)[k * 4 + 3]? = some (.int .i64 (l.getD k (.z, .z, 0, 0)).2.2.2) := by
  induction l with
  | nil => intro k hk; simp at hk
  | cons s l ih =>
    intro k hk
    cases k with
    | zero => simp [tieV]
    | succ k =>
      have h := ih k (by simpa using hk)
      have e : ∀ i, (List.flatMap tieV (s :: l))[(k + 1) * 4 + i]? = (List.flatMap tieV l)[k * 4 + i]? := fun i => by
        rw [List.flatMap_cons, List.getElem?_append_right (by simp [tieV]; omega)]
        congr 1; simp [tieV]; omega
      have e0 := e 0
      simp only [Nat.add_zero] at e0
      rw [e0, e 1, e 2, e 3]
      simpa using h
theorem ties_row {W : World} {base g cap : Nat} {l : List TieV} (h : W.ownsRow base 129 4 (.slice (some ⟨g, 0, none⟩) l.length cap) l.length (l.flatMap tieV)) : TiesIn W (some ⟨g, 0, none⟩) l := by
  refine .inr ⟨g, 0, rfl, (h.lt g rfl).2, fun k hk => ?_⟩
  obtain ⟨h1, h2, h3, h4⟩ := flat_tie l k hk
  refine ⟨?_, ?_, ?_, ?_⟩
  · rw [Nat.zero_add, h.cellAt _ (by omega), h1]
  · rw [Nat.zero_add, h.cellAt _ (by omega), h2]
  · rw [Nat.zero_add, h.cellAt _ (by omega), h3]
  · rw [Nat.zero_add, h.cellAt _ (by omega), h4]
/-- What is known of a watch that is looked at. -/
structure WOk (h : Wd) (ts : List (Int × Int)) (ls : List LkV) (E : Nat) : Prop where
  nl : ls.length = h.ln
  nt : ts.length = ls.length
  l12 : ls.length ≤ 12
  eE : h.eyes = (E : Int)
  e4 : E ≤ 4
  ey : ∀ k, k < ls.length → 0 ≤ (ls.getD k (0, 0, 0)).1 ∧ (ls.getD k (0, 0, 0)).1 < E
  im : ∀ k, k < ls.length → 0 ≤ (ls.getD k (0, 0, 0)).2.1 ∧ (ls.getD k (0, 0, 0)).2.1 < 6
  hb : (-1000000 ≤ h.hLo ∧ h.hLo ≤ 1000000) ∧ -1000000 ≤ h.hHi ∧ h.hHi ≤ 1000000
  tb : ∀ k, (-1000000 ≤ (ts.getD k (0, 0)).1 ∧ (ts.getD k (0, 0)).1 ≤ 1000000) ∧ -1000000 ≤ (ts.getD k (0, 0)).2 ∧ (ts.getD k (0, 0)).2 ≤ 1000000
/-- All that the looks of a set tell if the measurers of a set can have habits. -/
def tiesV (h : Wd) (ts : List (Int × Int)) (ls : List LkV) (E : Nat) (S H : Int) : List TieV := tvE h H E ++ tvL ls ts S ls.length
theorem WOk.ok {h : Wd} {ts : List (Int × Int)} {ls : List LkV} {E : Nat} (k : WOk h ts ls E) (S H : Int) : ∀ t ∈ tiesV h ts ls E S H, TieOk t := by
  intro t ht
  have h4 := k.e4
  rcases List.mem_append.1 ht with h1 | h1
  · obtain ⟨e, he, rfl⟩ := List.mem_map.1 h1
    have := List.mem_range.1 he
    refine ⟨by show 0 < 11; omega, by show 1 + e < 11; omega, ?_⟩
    unfold habT
    cases setI H e
    · dsimp only; simp
    · exact k.hb
  · obtain ⟨j, hj, rfl⟩ := List.mem_map.1 h1
    have hj := List.mem_range.1 (List.mem_filter.1 hj).1
    have a := k.ey j hj
    have b := k.im j hj
    exact ⟨by show 1 + _ < 11; omega, by show 5 + _ < 11; omega, k.tb j⟩
theorem WOk.len {h : Wd} {ts : List (Int × Int)} {ls : List LkV} {E : Nat} (k : WOk h ts ls E) (S H : Int) : (tiesV h ts ls E S H).length ≤ 16 := by
  have h4 := k.e4
  have h12 := k.l12
  have := tvL_len ls ts S ls.length
  unfold tiesV
  rw [List.length_append, tvE_len]
  omega
/-- The bounds over a base. -/
def ovB (h : Wd) (ts : List (Int × Int)) (ls : List LkV) (E : Nat) (S H : Int) (base : Nat) : Option B := overF ((tiesV h ts ls E S H).map tiOf) 11 (Nb.start base)
/-- What the ties tell over a base. -/
theorem ties_over (w0 : World) (L E : Nat) (h : Wd) (tv : Value) (ts : List (Int × Int)) (ls : List LkV) (S H : Int) (k : WOk h ts ls E) (w : World) (hI : IsW w0 w L h tv ts) (hlk : LooksIn w h.la ls) :
    Calls Tryz.prog 65 #[.pointer (some ⟨L, 0, none⟩), .func (.func 66) #[.int .i64 S] #[], .func (.func 66) #[.int .i64 H] #[]] w (fun e w' => ∃ v, e = .returned v ∧ Below w.heap.size w w' ∧
      ∀ (base : One) (Y : World), base.num < 11 → Below w'.heap.size w' Y → Calls Tryz.prog 64 #[base.val, v] Y (OverR Y (ovB h ts ls E S H base.num))) := by
  refine (ties_any w0 L E h tv ts ls S H w hI hlk k.nl k.nt k.l12 k.eE k.e4 (fun j hj => ⟨(k.ey j hj).1, (k.im j hj).1⟩)).mono ?_
  rintro e w' ⟨g, cap, rfl, hown, hB⟩
  refine ⟨_, rfl, hB, fun base Y hb hY => ?_⟩
  have hown2 := hown.kept (row := none) ⟨hY.os, hY.tape, hY.output, hY.size, fun i hi _ => hY.block i hi⟩ (.inr (by simp [Value.ownBlock]))
  exact over_any base _ hb (k.ok S H) (k.len S H) _ _ Y (ties_row hown2)
set_option maxRecDepth 100000 in
set_option maxHeartbeats 2000000 in
theorem can_any (w0 : World) (L E : Nat) (h : Wd) (tv : Value) (ts : List (Int × Int)) (ls : List LkV) (S H : Int) (k : WOk h ts ls E) (w : World) (hI : IsW w0 w L h tv ts) (hlk : LooksIn w h.la ls) :
    Calls Tryz.prog 21 #[.pointer (some ⟨L, 0, none⟩), .int .i64 S, .int .i64 H] w (Ret (.bool (ovB h ts ls E S H 0).isSome) w) := by
  have hmf : ∀ (fn : Fn) (first cap : Array Value) (w : World), (Instr.makeFunc fn first cap).run Tryz.prog w = .ok (.func fn first cap) w := fun _ _ _ _ => rfl
  have hT := Lib.hid (ties_over w0 L E h tv ts ls S H k w hI hlk)
  clear hI hlk
  obtain ⟨r, hR⟩ : ∃ r, ovB h ts ls E S H 0 = r := ⟨_, rfl⟩
  rw [hR]
  go_enter Tryz.func21, Tryz.ntmps21
  go_wp2_with fail
  refine hT.out.mono ?_
  rintro e w1 ⟨v, rfl, hB, hO⟩
  have HO := Lib.hid (hO .z w1 (by decide) (Below.refl _ _))
  clear hO hT
  go_wp2_with fail
  refine HO.out.mono ?_
  intro e w2 hr
  show _
  change OverR w1 (ovB h ts ls E S H 0) e w2 at hr
  clear HO
  rw [hR] at hr
  cases r with
  | none =>
    obtain ⟨rfl, hb2⟩ := hr
    go_wp2
    go_ret
    exact ⟨rfl, BT hB hb2⟩
  | some b =>
    obtain ⟨mb, n, ⟨rfl, _⟩, _, hb2⟩ := hr
    go_wp2
    go_ret
    exact ⟨rfl, BT hB hb2⟩
/-- The bounds of all truths, or the refusal. -/
def TruR (w : World) (r : Option B) (e : Ending) (w' : World) : Prop :=
  match r with
  | none => Pan 10 w e w'
  | some b => ∃ mb n, e = .returned (.map (some mb)) ∧ OwnB w' mb n b ∧ Below w.heap.size w w'
def allS (n : Nat) : Int := 2 ^ n - 1
set_option maxRecDepth 100000 in
set_option maxHeartbeats 2000000 in
theorem truths_any (w0 : World) (L E : Nat) (h : Wd) (tv : Value) (ts : List (Int × Int)) (ls : List LkV) (base : One) (hbn : base.num < 11) (k : WOk h ts ls E) (w : World) (hI : IsW w0 w L h tv ts) (hlk : LooksIn w h.la ls) :
    Calls Tryz.prog 41 #[.pointer (some ⟨L, 0, none⟩), base.val] w (TruR w (ovB h ts ls E (allS ls.length) (allS E) base.num)) := by
  have hmf : ∀ (fn : Fn) (first cap : Array Value) (w : World), (Instr.makeFunc fn first cap).run Tryz.prog w = .ok (.func fn first cap) w := fun _ _ _ _ => rfl
  have hT : Hid (∀ Y, Below w.heap.size w Y → Calls Tryz.prog 65 #[.pointer (some ⟨L, 0, none⟩), .func (.func 66) #[.int .i64 (allS ls.length)] #[], .func (.func 66) #[.int .i64 (allS E)] #[]] Y (fun e w' => ∃ v, e = .returned v ∧ Below Y.heap.size Y w' ∧
      ∀ (base : One) (Z : World), base.num < 11 → Below w'.heap.size w' Z → Calls Tryz.prog 64 #[base.val, v] Z (OverR Z (ovB h ts ls E (allS ls.length) (allS E) base.num)))) := fun Y hY =>
    ties_over w0 L E h tv ts ls (allS ls.length) (allS E) k Y (hI.grown hY) (hlk.below hY)
  have hl : Hid (∀ Y, Below w.heap.size w Y → Calls Tryz.prog 22 #[.pointer (some ⟨L, 0, none⟩)] Y (Ret (.int .i64 (allS ls.length)) Y)) := fun Y hY => by
    have := looks_any L h Y ((hI.grown hY).box) (by rw [← k.nl]; exact k.l12)
    rw [← k.nl] at this
    exact this
  have he : Hid (∀ Y, Below w.heap.size w Y → Calls Tryz.prog 23 #[.pointer (some ⟨L, 0, none⟩)] Y (Ret (.int .i64 (allS E)) Y)) := fun Y hY =>
    eyes_any L E h Y ((hI.grown hY).box) k.eE (by have := k.e4; omega)
  obtain ⟨T, F, bv, hbv, _⟩ := oneAt base hbn
  clear hI hlk
  generalize allS ls.length = sl at *
  generalize allS E = se at *
  obtain ⟨r, hR⟩ : ∃ r, ovB h ts ls E sl se base.num = r := ⟨_, rfl⟩
  rw [hR, hbv]
  go_enter Tryz.func41, Tryz.ntmps41
  go_wp2_with fail
  refine (hl.out _ (Below.refl _ _)).mono ?_
  rintro e w1 ⟨rfl, hb1⟩
  go_wp2_with fail
  refine (he.out _ hb1).mono ?_
  rintro e w2 ⟨rfl, hb2⟩
  have hB2 := BT hb1 hb2
  clear hb1 hb2
  go_wp2_with fail
  refine (hT.out _ hB2).mono ?_
  rintro e w3 ⟨v, rfl, hb3, hO⟩
  have HO := Lib.hid (hO base w3 hbn (Below.refl _ _))
  have hB3 := BT hB2 hb3
  rw [hbv] at HO
  clear hO hT hb3 hB2 hl he
  go_wp2_with fail
  refine HO.out.mono ?_
  intro e w4 hr
  clear HO
  rw [hR] at hr
  cases r with
  | none =>
    obtain ⟨rfl, hb4⟩ := hr
    have hB4 := BT hB3 hb4
    go_wp2_with fail
    refine (insist_no _ _).mono ?_
    rintro e w5 ⟨rfl, hb5⟩
    have hB5 := BT hB4 hb5
    go_wp2
    exact ⟨rfl, rfl, hB5⟩
  | some b =>
    obtain ⟨mb, n, ⟨rfl, hown⟩, _, hb4⟩ := hr
    have hB4 := BT hB3 hb4
    go_wp2_with fail
    refine (insist_yes _ _).mono ?_
    rintro e w5 ⟨rfl, hb5⟩
    go_wp2
    go_ret
    exact ⟨mb, n, rfl, hown.kept (grown_below hb5 none) (by simp), BT hB4 hb5⟩
end Ey
end Go.Proofs.YtcfjakifeihbpaaGreat
