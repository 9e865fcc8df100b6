/- Eye: the walks of EyeHabits and EyeSets. -/
import Derived.Test.YtcfjakifeihbpaaRfA
import Derived.Test.YtcfjakifeihbpaaEap
import Derived.Test.YtcfjakifeihbpaaEai
import Derived.Test.YtcfjakifeihbpaaEfa
import Derived.Test.YtcfjakifeihbpaaEpw
namespace Go.Proofs.Ytcfjakifeihbpaa
namespace Ey
open Go.RowKit Go.Shelf Fwn

theorem powI {n : Nat} (h : n ≤ 12) : (1 : Int) ≤ 2 ^ n ∧ (2 : Int) ^ n ≤ 4096 := by
  have : ∀ k : Fin 13, (1 : Int) ≤ 2 ^ k.val ∧ (2 : Int) ^ k.val ≤ 4096 := by decide
  exact this ⟨n, by omega⟩
set_option maxRecDepth 100000 in
set_option maxHeartbeats 2000000 in
theorem allR_any (h : Wd) (E : Nat) (w : World) (hE : h.eyes = (E : Int)) (hE4 : E ≤ 4) (hl : h.ln ≤ 12) :
    Calls Try.prog 63 #[h.val] w (Ret (.tuple #[.int .i64 (allS h.ln), .int .i64 (allS E)]) w) := by
  have hb0 : BoxW (w.alloc (.cells #[.slice h.a h.n h.cap, .int .i64 h.eLo, .int .i64 h.eHi, .int .i64 h.images, .int .i64 h.eyes, .int .i64 h.hLo, .int .i64 h.hHi, .slice h.la h.ln h.lcap] 29)) w.heap.size h := boxW_new w h _
  have hW0 : Below w.heap.size w (w.alloc (.cells #[.slice h.a h.n h.cap, .int .i64 h.eLo, .int .i64 h.eHi, .int .i64 h.images, .int .i64 h.eyes, .int .i64 h.hLo, .int .i64 h.hHi, .slice h.la h.ln h.lcap] 29)) := newB _ _
  obtain ⟨c0, c1, c2, c3, c4, c5, c6, c7⟩ := hb0
  obtain ⟨p1, p2⟩ := powI hl
  obtain ⟨p3, p4⟩ := powI (show E ≤ 12 by omega)
  have hA1 : Hid (allS h.ln = 2 ^ h.ln - 1) := rfl
  have hA2 : Hid (allS E = 2 ^ E - 1) := rfl
  have hp1 := Lib.hid (power_any h.ln (by omega))
  have hp2 := Lib.hid (power_any E (by omega))
  rw [hA1.out, hA2.out]
  generalize (2 : Int) ^ h.ln = q1 at *
  generalize (2 : Int) ^ E = q2 at *
  have hq1 : Hid (IntKind.i64.wrap (q1 - 1) = q1 - 1) := by show _ = _; exact IntWalk.i64_in _ (by omega)
  have hq2 : Hid (IntKind.i64.wrap (q2 - 1) = q2 - 1) := by show _ = _; exact IntWalk.i64_in _ (by omega)
  have HE := Lib.hid hE
  clear hA1 hA2 hE
  unfold Wd.val
  go_enter Try.func63, Try.ntmps63
  go_wp2_with fail
  generalize w.alloc (.cells #[.slice h.a h.n h.cap, .int .i64 h.eLo, .int .i64 h.eHi, .int .i64 h.images, .int .i64 h.eyes, .int .i64 h.hLo, .int .i64 h.hHi, .slice h.la h.ln h.lcap] 29) = W at *
  rw [HE.out] at c4
  generalize hBw : w.heap.size = B at c0 c1 c2 c3 c4 c5 c6 c7 ⊢
  refine wp_region_seq [(0, true), (1, true), (2, true), (5, true), (6, true), (3, false), (4, true), (7, false), (8, true), (9, true), (10, true)] (fun w' => w'.cell? ⟨B, 4, none⟩ = some (.int .i64 E) ∧ w'.cell? ⟨B, 7, none⟩ = some (.slice h.la h.ln h.lcap)) (by kernel_rfl) (by kernel_rfl) (fun _ _ d _ _ h => by cases d <;> exact h) ⟨c4, c7⟩ ?_
  have hD0 : Below w.heap.size w W.drew := hW0.trans ((Below.drew (Below.refl _ _)).mono hW0.size)
  have c4 : W.drew.cell? ⟨B, 4, none⟩ = some (.int .i64 E) := c4
  have c7 : W.drew.cell? ⟨B, 7, none⟩ = some (.slice h.la h.ln h.lcap) := c7
  generalize W.drew = X at *
  repeat (first | (refine seq_read rfl (by rfl) _ (fun w' hS => by (try dsimp only at hS); go_simp; (try with_reducible rfl)) ?_; (try simp only [Act.put, List.setIfInBounds_toArray, List.set_cons_zero, List.set_cons_succ])) | (refine seq_skip rfl (by rfl) ?_; (try simp only [Act.put, List.setIfInBounds_toArray, List.set_cons_zero, List.set_cons_succ])))
  refine seq_do rfl (by rfl) (fun K hK => ?_)
  go_simp
  refine (hp1.out X).mono ?_
  rintro e w1 ⟨rfl, hb1⟩
  have c4 := cellB c4 hb1
  have c7 := cellB c7 hb1
  refine hK _ _ ⟨c4, c7⟩ ?_
  clear hK K
  (try simp only [Act.put, List.setIfInBounds_toArray, List.set_cons_zero, List.set_cons_succ])
  repeat (first | (refine seq_read rfl (by rfl) _ (fun w' hS => by (try dsimp only at hS); go_simp; (try with_reducible rfl)) ?_; (try simp only [Act.put, List.setIfInBounds_toArray, List.set_cons_zero, List.set_cons_succ])) | (refine seq_skip rfl (by rfl) ?_; (try simp only [Act.put, List.setIfInBounds_toArray, List.set_cons_zero, List.set_cons_succ])))
  refine seq_do rfl (by rfl) (fun K hK => ?_)
  go_simp
  refine (hp2.out w1).mono ?_
  rintro e w2 ⟨rfl, hb2⟩
  have c4 := cellB c4 hb2
  have c7 := cellB c7 hb2
  refine hK _ _ ⟨c4, c7⟩ ?_
  clear hK K
  (try simp only [Act.put, List.setIfInBounds_toArray, List.set_cons_zero, List.set_cons_succ])
  repeat (first | (refine seq_read rfl (by rfl) _ (fun w' hS => by (try dsimp only at hS); go_simp; (try with_reducible rfl)) ?_; (try simp only [Act.put, List.setIfInBounds_toArray, List.set_cons_zero, List.set_cons_succ])) | (refine seq_skip rfl (by rfl) ?_; (try simp only [Act.put, List.setIfInBounds_toArray, List.set_cons_zero, List.set_cons_succ])))
  apply seq_end
  first | show Exit.inBlock _ _ Exit.normal _ _ | show Exit.then _ _ Exit.normal _ _ | skip
  rw [hq1.out, hq2.out]
  have hB9 := hD0.trans ((hb1.trans (hb2.mono hb1.size)).mono hD0.size)
  go_wp2_with fail
  exact bodyPost_ret (v := .tuple #[.int .i64 (q1 - 1), .int .i64 (q2 - 1)]) (by simp [results, Try.results63, go_sem]) rfl ⟨rfl, hB9⟩

/-- The reference's opening of a watch: the error, or that there are bounds. -/
def openE (h : Wd) (xs : List (Int × Int)) (ls : List LkV) (ok : Bool) : Int := if validW h xs ls then (if ok then (if goodB (refN h) (refD h xs ls) then 0 else 10) else 2) else 1
def OpenOut (w : World) (h : Wd) (xs : List (Int × Int)) (ls : List LkV) (c : Int) (e : Ending) (w' : World) : Prop :=
  Below w.heap.size w w' ∧ ∃ v, e = .returned (.tuple #[v, .int .i64 c]) ∧ (c = 0 → MxIn w.heap.size w' v (refN h) (refD h xs ls))
theorem allS_rng {n : Nat} (hn : n ≤ 12) : 0 ≤ allS n ∧ allS n < 4096 := by
  obtain ⟨a, b⟩ := powI hn
  unfold allS; omega
set_option maxRecDepth 100000 in
set_option maxHeartbeats 2000000 in
theorem openR_any (h : Wd) (xs : List (Int × Int)) (ls : List LkV) (ok : Bool) (w : World) (hm : HasW w h xs ls) (hn : xs.length ≤ 100) (hns : ls.length ≤ 40) :
    Calls Try.prog 47 #[h.val, .bool ok] w (OpenOut w h xs ls (openE h xs ls ok)) := by
  have hb0 : BoxW (w.alloc (.cells #[.slice h.a h.n h.cap, .int .i64 h.eLo, .int .i64 h.eHi, .int .i64 h.images, .int .i64 h.eyes, .int .i64 h.hLo, .int .i64 h.hHi, .slice h.la h.ln h.lcap] 29)) w.heap.size h := boxW_new w h _
  have hW0 : Below w.heap.size w (w.alloc (.cells #[.slice h.a h.n h.cap, .int .i64 h.eLo, .int .i64 h.eHi, .int .i64 h.images, .int .i64 h.eyes, .int .i64 h.hLo, .int .i64 h.hHi, .slice h.la h.ln h.lcap] 29)) := newB _ _
  have HM0 := Lib.hid (hm.below hW0)
  have HNL := Lib.hid hm.nl
  have hwat : Hid (∀ Y, HasW Y h xs ls → Calls Try.prog 33 #[h.val] Y (Ret (.bool (validW h xs ls)) Y)) := fun Y hY => watchR_any h xs ls Y hY hn hns
  have hall : Hid (validW h xs ls = true → ∀ Y, Calls Try.prog 63 #[h.val] Y (Ret (.tuple #[.int .i64 (allS ls.length), .int .i64 (allS h.eyes.toNat)]) Y)) := fun hv Y => by
    have r := ro_of hv hm.nl
    have := allR_any h h.eyes.toNat Y r.w.eE r.w.e4 (by rw [← hm.nl]; exact r.w.l12)
    rw [← hm.nl] at this; exact this
  have hof : Hid (validW h xs ls = true → ∀ Y, HasW Y h xs ls → Calls Try.prog 69 #[h.val, .int .i64 (allS ls.length), .int .i64 (allS h.eyes.toNat)] Y (OfOut Y (refN h) (refD h xs ls))) := fun hv Y hY => by
    have r := ro_of hv hm.nl
    exact of_any h xs ls (allS ls.length) (allS h.eyes.toNat) Y hY hv hn (allS_rng r.w.l12) (allS_rng (by have := r.w.e4; omega))
  have hE : Hid (openE h xs ls ok = if validW h xs ls then (if ok then (if goodB (refN h) (refD h xs ls) then 0 else 10) else 2) else 1) := rfl
  unfold OfOut at hof
  unfold OpenOut
  generalize allS ls.length = S at *
  generalize allS h.eyes.toNat = H at *
  generalize openE h xs ls ok = R at *
  generalize refD h xs ls = D at *
  generalize refN h = n at *
  generalize goodB n D = gd at *
  obtain ⟨c0, c1, c2, c3, c4, c5, c6, c7⟩ := hb0
  clear hm hns hn
  unfold Wd.val at hwat hall hof ⊢
  go_enter Try.func47, Try.ntmps47
  go_wp2_with fail
  generalize hBw : w.heap.size = B at c0 c1 c2 c3 c4 c5 c6 c7 ⊢
  have hW0 := Lib.hid hW0
  generalize w.alloc (.cells #[.slice h.a h.n h.cap, .int .i64 h.eLo, .int .i64 h.eHi, .int .i64 h.images, .int .i64 h.eyes, .int .i64 h.hLo, .int .i64 h.hHi, .slice h.la h.ln h.lcap] 29) = W at *
  refine (hwat.out W HM0.out).mono ?_
  rintro e w1 ⟨rfl, hb1⟩
  have HB1 := Lib.hid (hW0.out.trans (hb1.mono hW0.out.size))
  cases hv : validW h xs ls
  · have HR : Hid (R = 1) := by show _ = _; rw [hE.out, hv]; rfl
    clear hE hv
    go_wp2_with fail
    exact bodyPost_ret (v := .tuple #[.slice none 0 0, .int .i64 1]) (by simp [results, Try.results47, go_sem]) rfl ⟨HB1.out, _, by rw [HR.out], fun h0 => by rw [HR.out] at h0; cases h0⟩
  cases ok
  · have HR : Hid (R = 2) := by show _ = _; rw [hE.out, hv]; rfl
    clear hE hv
    go_wp2_with fail
    exact bodyPost_ret (v := .tuple #[.slice none 0 0, .int .i64 2]) (by simp [results, Try.results47, go_sem]) rfl ⟨HB1.out, _, by rw [HR.out], fun h0 => by rw [HR.out] at h0; cases h0⟩
  have hall2 := Lib.hid (hall.out hv)
  have hof2 := Lib.hid (hof.out hv)
  have HM1 := Lib.hid (HM0.out.below hb1)
  have HR : Hid (R = if gd then 0 else 10) := by show _ = _; rw [hE.out, hv]; rfl
  clear hall hof hE hv hwat HM0
  have c0 := cellB c0 hb1
  have c1 := cellB c1 hb1
  have c2 := cellB c2 hb1
  have c3 := cellB c3 hb1
  have c4 := cellB c4 hb1
  have c5 := cellB c5 hb1
  have c6 := cellB c6 hb1
  have c7 := cellB c7 hb1
  clear hb1
  go_wp2_with fail
  refine (hall2.out w1).mono ?_
  rintro e w2 ⟨rfl, hb2⟩
  have c0 := cellB c0 hb2
  have c1 := cellB c1 hb2
  have c2 := cellB c2 hb2
  have c3 := cellB c3 hb2
  have c4 := cellB c4 hb2
  have c5 := cellB c5 hb2
  have c6 := cellB c6 hb2
  have c7 := cellB c7 hb2
  have HB2 := Lib.hid (HB1.out.trans (hb2.mono HB1.out.size))
  have HM2 := Lib.hid (HM1.out.below hb2)
  clear HM1 HB1 hb2
  go_wp2_with fail
  refine (hof2.out w2 HM2.out).mono ?_
  rintro e w3 ⟨hb3, hof3⟩
  have HB3 := Lib.hid (HB2.out.trans (hb3.mono HB2.out.size))
  cases gd
  · rw [if_neg (by simp)] at hof3
    subst hof3
    go_wp2_with fail
    exact bodyPost_ret (v := .tuple #[.slice none 0 0, .int .i64 10]) (by simp [results, Try.results47, go_sem]) rfl ⟨HB3.out, _, by rw [HR.out]; rfl, fun h0 => by rw [HR.out] at h0; cases h0⟩
  · rw [if_pos rfl] at hof3
    obtain ⟨v, rfl, hin⟩ := hof3
    have HIN := Lib.hid hin
    obtain ⟨gb, bc, gs, cs, rfl, _, _, _, _⟩ := hin
    go_wp2_with fail
    exact bodyPost_ret (v := .tuple #[.slice (some ⟨gb, 0, none⟩) n bc, .int .i64 0]) (by simp [results, Try.results47, go_sem]) rfl ⟨HB3.out, _, by rw [HR.out]; rfl, fun _ => HIN.out.lower HB2.out.size⟩
end Ey
end Go.Proofs.Ytcfjakifeihbpaa

namespace Go.Proofs.Ytcfjakifeihbpaa
namespace Ey
open Go.RowKit Nb Fwn

/-- The number that is asked for is one, as the reference asks. -/
def okE (m i : Int) : Bool := inB i 0 (IntKind.i64.wrap (m - 1))
theorem okE_eq {m : Int} (hm : 1 ≤ m ∧ m ≤ 6) (i : Int) : okE m i = isImg m i := by
  unfold okE
  rw [IntWalk.i64_in _ (by omega), isImg_in]
def NB (x : Int) : Prop := -300000000000000 ≤ x ∧ x ≤ 1073741824
section
variable {h : Wd} {xs : List (Int × Int)} {ls : List LkV}
theorem refD_b (hv : validW h xs ls = true) (hn : ls.length = h.ln) {i j : Nat} (hi : i < refN h) (hj : j < refN h) : NB (refD h xs ls i j) := by
  have r := ro_of hv hn
  have rd := (looksM_ok (S := allS ls.length) (H := allS h.eyes.toNat) r ls.length (Nat.le_refl _)).1
  have e4 := r.w.e4
  have i6 := r.i6
  unfold refN at hi hj
  unfold refD ofM
  have h1 := low_all (B := 100000) (by omega) rd.low (1 + h.eyes.toNat + h.images.toNat) (Nat.le_refl _) i j hi hj
  have h2 := (pow6 (1 + h.eyes.toNat + h.images.toNat) (by omega)).1
  have h3 := all_le (1 + h.eyes.toNat + h.images.toNat) (looksM h (ls.map (travOf h xs)) ls h.eyes.toNat (allS ls.length) (allS h.eyes.toNat) ls.length) i j 0 (1 + h.eyes.toNat + h.images.toNat) (by omega)
  have h4 := rd.top i j hi hj
  have h5 : allM (1 + h.eyes.toNat + h.images.toNat) 0 (looksM h (ls.map (travOf h xs)) ls h.eyes.toNat (allS ls.length) (allS h.eyes.toNat) ls.length) i j = looksM h (ls.map (travOf h xs)) ls h.eyes.toNat (allS ls.length) (allS h.eyes.toNat) ls.length i j := rfl
  have hF : F = 1073741824 := rfl
  unfold NB
  constructor <;> omega
theorem open_no (hv : validW h xs ls = false) (ok : Bool) : openE h xs ls ok = 1 := by unfold openE; rw [hv]; rfl
theorem open_ok (hv : validW h xs ls = true) (ok : Bool) : openE h xs ls ok = if ok then (if goodB (refN h) (refD h xs ls) then 0 else 10) else 2 := by unfold openE; rw [hv]; rfl
theorem base_some (hv : validW h xs ls = true) (hn : ls.length = h.ln) (hg : goodB (refN h) (refD h xs ls) = true) {base : Nat} (hb : isBase h.eyes.toNat base) : ∃ b, ovW h xs ls base = some b := by
  cases ho : ovW h xs ls base with
  | some b => exact ⟨b, rfl⟩
  | none => have := (ref_none hv hn hb).1 ho; rw [hg] at this; cases this
theorem sgm_zero (E : Nat) : sgm E 0 = 0 := if_pos (by omega)
theorem hab_one (hv : validW h xs ls = true) (hn : ls.length = h.ln) {b : B} (ho : ovW h xs ls 0 = some b) {e : Nat} (he : e < h.eyes.toNat) :
    b (1 + e) = some (-(refD h xs ls (1 + e) 0), refD h xs ls 0 (1 + e)) := by
  have hin : inS ls h.eyes.toNat (allS ls.length) (sgm h.eyes.toNat (1 + e)) := .inr (.inl ⟨e, he, sgm_hab he⟩)
  have := (ref_some hv hn (i := 0) (j := 1 + e) (by rw [sgm_zero]; exact .inl rfl) (by unfold refN; omega) (by unfold refN; omega) (b := b) (by rw [sgm_zero]; exact ho) hin).1
  rw [sgm_hab he] at this
  exact this
theorem habit_facts (hn : ls.length = h.ln) (i : Int) : ∃ c, openE h xs ls (okE h.eyes i) = c ∧ (c ≠ 0 → reply (habitR h xs ls i) = .tuple #[.agg #[.int .i64 0, .int .i64 0], .int .i64 c]) ∧
    (c = 0 → ∃ k : Nat, i = (k : Int) ∧ (1 + k < refN h ∧ refN h ≤ 11 ∧ k < 4) ∧ NB (refD h xs ls (1 + k) 0) ∧ NB (refD h xs ls 0 (1 + k)) ∧ reply (habitR h xs ls i) = .tuple #[.agg #[.int .i64 (-(refD h xs ls (1 + k) 0)), .int .i64 (refD h xs ls 0 (1 + k))], .int .i64 0]) := by
  refine ⟨_, rfl, ?_⟩
  cases hv : validW h xs ls
  · rw [open_no hv]
    exact ⟨fun _ => by unfold habitR; rw [hv]; rfl, fun h => by cases h⟩
  · have V := validW_iff hv
    rw [open_ok hv, okE_eq ⟨V.ey.1, by have := V.ey.2; omega⟩]
    have hh : habitR h xs ls i = if isImg h.eyes i then askR (ovW h xs ls 0) (1 + i.toNat) else .error 2 := by unfold habitR; rw [hv]; rfl
    rw [hh]
    cases hi : isImg h.eyes i
    · exact ⟨fun _ => rfl, fun h => by cases h⟩
    · rw [if_pos rfl, if_pos rfl]
      have hi2 := img_iff.1 hi
      obtain ⟨k, rfl⟩ : ∃ k : Nat, i = (k : Int) := ⟨i.toNat, by omega⟩
      rw [Int.toNat_natCast]
      have hk : k < h.eyes.toNat := by omega
      have r := ro_of hv hn
      have e4 := r.w.e4
      have i6 := r.i6
      cases hg : goodB (refN h) (refD h xs ls)
      · rw [(ref_none hv hn (.inl rfl)).2 hg]
        exact ⟨fun _ => rfl, fun h => by cases h⟩
      · obtain ⟨b, hb⟩ := base_some hv hn hg (.inl rfl)
        refine ⟨fun h => absurd rfl h, fun _ => ⟨k, rfl, ⟨by unfold refN; omega, by unfold refN; omega, by omega⟩, refD_b hv hn (by unfold refN; omega) (by unfold refN; omega), refD_b hv hn (by unfold refN; omega) (by unfold refN; omega), ?_⟩⟩
        rw [hb]
        unfold askR
        dsimp only
        rw [hab_one hv hn hb hk]
        rfl
theorem between_facts (hn : ls.length = h.ln) (i j : Int) : ∃ c, openE h xs ls (okE h.eyes i && okE h.eyes j) = c ∧ (c ≠ 0 → reply (betweenR h xs ls i j) = .tuple #[.agg #[.int .i64 0, .int .i64 0], .int .i64 c]) ∧
    (c = 0 → ∃ k m : Nat, i = (k : Int) ∧ j = (m : Int) ∧ (1 + k < refN h ∧ 1 + m < refN h ∧ refN h ≤ 11 ∧ k < 4 ∧ m < 4) ∧ NB (refD h xs ls (1 + m) (1 + k)) ∧ NB (refD h xs ls (1 + k) (1 + m)) ∧ reply (betweenR h xs ls i j) = .tuple #[.agg #[.int .i64 (-(refD h xs ls (1 + m) (1 + k))), .int .i64 (refD h xs ls (1 + k) (1 + m))], .int .i64 0]) := by
  refine ⟨_, rfl, ?_⟩
  cases hv : validW h xs ls
  · rw [open_no hv]
    exact ⟨fun _ => by unfold betweenR; rw [hv]; rfl, fun h => by cases h⟩
  · have V := validW_iff hv
    rw [open_ok hv, okE_eq ⟨V.ey.1, by have := V.ey.2; omega⟩, okE_eq ⟨V.ey.1, by have := V.ey.2; omega⟩]
    have hh : betweenR h xs ls i j = if isImg h.eyes i then if isImg h.eyes j then askR (ovW h xs ls (1 + i.toNat)) (1 + j.toNat) else .error 2 else .error 2 := by unfold betweenR; rw [hv]; rfl
    rw [hh]
    cases hi : isImg h.eyes i
    · exact ⟨fun _ => rfl, fun h => by cases h⟩
    cases hj : isImg h.eyes j
    · exact ⟨fun _ => rfl, fun h => by cases h⟩
    · rw [if_pos rfl, if_pos rfl]
      rw [if_pos (show (true && true) = true from rfl)]
      have hi2 := img_iff.1 hi
      have hj2 := img_iff.1 hj
      obtain ⟨k, rfl⟩ : ∃ k : Nat, i = (k : Int) := ⟨i.toNat, by omega⟩
      obtain ⟨m, rfl⟩ : ∃ k : Nat, j = (k : Int) := ⟨j.toNat, by omega⟩
      rw [Int.toNat_natCast, Int.toNat_natCast]
      have hk : k < h.eyes.toNat := by omega
      have hm : m < h.eyes.toNat := by omega
      have r := ro_of hv hn
      have e4 := r.w.e4
      have i6 := r.i6
      have hbs : isBase h.eyes.toNat (1 + k) := .inr ⟨k, hk, rfl⟩
      cases hg : goodB (refN h) (refD h xs ls)
      · rw [(ref_none hv hn hbs).2 hg]
        exact ⟨fun _ => rfl, fun h => by cases h⟩
      · obtain ⟨b, hb⟩ := base_some hv hn hg hbs
        refine ⟨fun h => absurd rfl h, fun _ => ⟨k, m, rfl, rfl, ⟨by unfold refN; omega, by unfold refN; omega, by unfold refN; omega, by omega, by omega⟩, refD_b hv hn (by unfold refN; omega) (by unfold refN; omega), refD_b hv hn (by unfold refN; omega) (by unfold refN; omega), ?_⟩⟩
        rw [hb]
        unfold askR
        dsimp only
        have hin : inS ls h.eyes.toNat (allS ls.length) (sgm h.eyes.toNat (1 + m)) := .inr (.inl ⟨m, hm, sgm_hab hm⟩)
        have := (ref_some hv hn (i := 1 + k) (j := 1 + m) (by rw [sgm_hab hk]; exact hbs) (by unfold refN; omega) (by unfold refN; omega) (b := b) (by rw [sgm_hab hk]; exact hb) hin).1
        rw [sgm_hab hm] at this
        rw [this]
        rfl
theorem place_facts' (hn : ls.length = h.ln) (i : Int) : ∃ c, openE h xs ls (okE h.images i) = c ∧ (c ≠ 0 → reply (placeR h xs ls i) = .tuple #[.agg #[.int .i64 0, .int .i64 0], .int .i64 c]) ∧
    (c = 0 → ∃ k E : Nat, i = (k : Int) ∧ h.eyes = (E : Int) ∧ (1 + E + k < refN h ∧ refN h ≤ 11 ∧ k < 6 ∧ E ≤ 4) ∧ NB (refD h xs ls (1 + E + k) 0) ∧ NB (refD h xs ls 0 (1 + E + k)) ∧ reply (placeR h xs ls i) = if refD h xs ls 0 (1 + E + k) = 1073741824 then .tuple #[.agg #[.int .i64 0, .int .i64 0], .int .i64 12] else .tuple #[.agg #[.int .i64 (-(refD h xs ls (1 + E + k) 0)), .int .i64 (refD h xs ls 0 (1 + E + k))], .int .i64 0]) := by
  refine ⟨_, rfl, ?_⟩
  cases hv : validW h xs ls
  · rw [open_no hv]
    exact ⟨fun _ => by unfold placeR; rw [hv]; rfl, fun h => by cases h⟩
  · have V := validW_iff hv
    rw [open_ok hv, okE_eq V.im]
    have hh : placeR h xs ls i = if isImg h.images i then askR (ovW h xs ls 0) (5 + i.toNat) else .error 2 := by unfold placeR; rw [hv]; rfl
    rw [hh]
    cases hi : isImg h.images i
    · exact ⟨fun _ => rfl, fun h => by cases h⟩
    · rw [if_pos rfl, if_pos rfl]
      have hi2 := img_iff.1 hi
      obtain ⟨k, rfl⟩ : ∃ k : Nat, i = (k : Int) := ⟨i.toNat, by omega⟩
      rw [Int.toNat_natCast]
      have hk : k < h.images.toNat := by omega
      have r := ro_of hv hn
      have e4 := r.w.e4
      have i6 := r.i6
      cases hg : goodB (refN h) (refD h xs ls)
      · rw [(ref_none hv hn (.inl rfl)).2 hg]
        exact ⟨fun _ => rfl, fun h => by cases h⟩
      · obtain ⟨b, hb⟩ := base_some hv hn hg (.inl rfl)
        refine ⟨fun h => absurd rfl h, fun _ => ⟨k, h.eyes.toNat, rfl, by have := V.ey; omega, ⟨by unfold refN; omega, by unfold refN; omega, by omega, by omega⟩, refD_b hv hn (by unfold refN; omega) (by unfold refN; omega), refD_b hv hn (by unfold refN; omega) (by unfold refN; omega), ?_⟩⟩
        rw [hb]
        unfold askR
        dsimp only
        have hso : ovB h (ls.map (travOf h xs)) ls h.eyes.toNat (allS ls.length) (allS h.eyes.toNat) 0 = some b := hb
        by_cases hin : inS ls h.eyes.toNat (allS ls.length) (5 + k)
        · have := ref_some hv hn (i := 0) (j := 1 + h.eyes.toNat + k) (by rw [sgm_zero]; exact .inl rfl) (by unfold refN; omega) (by unfold refN; omega) (b := b) (by rw [sgm_zero]; exact hb) (by rw [sgm_im]; exact hin)
          rw [sgm_im] at this
          rw [this.1, if_neg (by have := this.2.1; have hF : F = 1073741824 := rfl; show ¬ _ = (1073741824 : Int); omega)]
          rfl
        · rw [(ov_some r.w (.inl rfl) hso).2.2 _ hin]
          have h1 := ref_free r (good_iff.1 hg) hk hin
          have h2 := (refD_b hv hn (i := 0) (j := 1 + h.eyes.toNat + k) (by unfold refN; omega) (by unfold refN; omega)).2
          have h3 : ¬ refD h xs ls 0 (1 + h.eyes.toNat + k) < 1073741824 := h1
          rw [if_pos (by omega)]
          rfl
def sureB (D : Mat) (e : Nat) : Bool := decide (D (1 + e) 0 < 0) || decide (D 0 (1 + e) < 0)
theorem sureTo_congr {p q : Nat → Bool} : ∀ n, (∀ e, e < n → p e = q e) → sureTo p n = sureTo q n
  | 0, _ => rfl
  | n + 1, hh => by rw [sureTo, sureTo, hh n (by omega), sureTo_congr n (fun e he => hh e (by omega))]
theorem sure_facts (hn : ls.length = h.ln) : ∃ c, openE h xs ls true = c ∧ (c ≠ 0 → replyI (sureA h xs ls) = .tuple #[.int .i64 0, .int .i64 c]) ∧
    (c = 0 → ∃ E : Nat, h.eyes = (E : Int) ∧ E ≤ 4 ∧ (1 + E ≤ refN h ∧ refN h ≤ 11) ∧ replyI (sureA h xs ls) = .tuple #[.int .i64 (sureTo (sureB (refD h xs ls)) E), .int .i64 0]) := by
  refine ⟨_, rfl, ?_⟩
  cases hv : validW h xs ls
  · rw [open_no hv]
    exact ⟨fun _ => by unfold sureA; rw [hv]; rfl, fun h => by cases h⟩
  · have V := validW_iff hv
    rw [open_ok hv, if_pos rfl]
    have hh : sureA h xs ls = sureR h xs ls := by unfold sureA; rw [hv]; rfl
    rw [hh]
    have r := ro_of hv hn
    have e4 := r.w.e4
    have i6 := r.i6
    unfold sureR
    cases hg : goodB (refN h) (refD h xs ls)
    · rw [(ref_none hv hn (.inl rfl)).2 hg]
      exact ⟨fun _ => rfl, fun h => by cases h⟩
    · obtain ⟨b, hb⟩ := base_some hv hn hg (.inl rfl)
      refine ⟨fun h => absurd rfl h, fun _ => ⟨h.eyes.toNat, by have := V.ey; omega, e4, ⟨by unfold refN; omega, by unfold refN; omega⟩, ?_⟩⟩
      rw [hb]
      dsimp only
      rw [sureTo_congr (q := sureB (refD h xs ls)) (eyesN h) (fun e he => ?_)]
      · rfl
      · unfold sureP
        rw [hab_one hv hn hb he]
        dsimp only
        unfold holdB sureB
        rw [Bool.eq_iff_iff]
        simp only [Bool.not_eq_true', Bool.and_eq_false_iff, Bool.or_eq_true, decide_eq_true_eq, decide_eq_false_iff_not]
        have hle : (-(refD h xs ls (1 + e) 0)) ≤ refD h xs ls 0 (1 + e) := by
          have he' : e < h.eyes.toNat := he
          have a := (ref_some hv hn (i := 0) (j := 1 + e) (by rw [sgm_zero]; exact .inl rfl) (by unfold refN; omega) (by unfold refN; omega) (b := b) (by rw [sgm_zero]; exact hb) (.inr (.inl ⟨e, he', sgm_hab he'⟩)))
          obtain ⟨_, f1, f2⟩ := a
          obtain ⟨y, hy⟩ := (ref_truth r).2 (good_iff.1 hg)
          have u1 := (ref_ends r (good_iff.1 hg) (i := 0) (j := 1 + e) (by omega) (by omega)).2.2 f1 y hy
          have u2 := (ref_ends r (good_iff.1 hg) (i := 1 + e) (j := 0) (by omega) (by omega)).2.2 f2 y hy
          unfold refD
          omega
        omega
end
end Ey
end Go.Proofs.Ytcfjakifeihbpaa

namespace Go.Proofs.Ytcfjakifeihbpaa
namespace Ey
open Go.RowKit Go.Shelf Nb Fwn

set_option maxRecDepth 100000 in
set_option maxHeartbeats 4000000 in
theorem habitR_any (h : Wd) (xs : List (Int × Int)) (ls : List LkV) (i : Int) (w : World) (hm : HasW w h xs ls) (hn : xs.length ≤ 100) (hns : ls.length ≤ 40) :
    Calls Try.prog 15 #[h.val, .int .i64 i] w (Ret (reply (habitR h xs ls i)) w) := by
  obtain ⟨c, hc, hne, hz⟩ := habit_facts hm.nl i
  have hnb : NB 0 := by unfold NB; omega
  have hop : Hid (∀ Y, HasW Y h xs ls → Calls Try.prog 47 #[h.val, .bool (okE h.eyes i)] Y (OpenOut Y h xs ls c)) := fun Y hY => by rw [← hc]; exact openR_any h xs ls _ Y hY hn hns
  have hinn : Hid (∀ i : Int, ∀ Y, Calls Try.prog 48 #[.int .i64 i, .int .i64 0, .int .i64 (IntKind.i64.wrap (h.eyes - 1))] Y (Ret (.bool (okE h.eyes i)) Y)) := fun i Y => in3_any i 0 _ Y
  have HZ := Lib.hid hz
  have HNE := Lib.hid hne
  obtain ⟨W1, hW1⟩ : ∃ W1 : World, w.alloc (.cells #[.slice h.a h.n h.cap, .int .i64 h.eLo, .int .i64 h.eHi, .int .i64 h.images, .int .i64 h.eyes, .int .i64 h.hLo, .int .i64 h.hHi, .slice h.la h.ln h.lcap] 29) = W1 := ⟨_, rfl⟩
  have hb0 : BoxW W1 w.heap.size h := hW1 ▸ boxW_new w h _
  have hB1 : Below w.heap.size w W1 := hW1 ▸ newB _ _
  have hsz1 : w.heap.size + 1 = W1.heap.size := by rw [← hW1]; simp
  have hb2 := hb0.grown (newB W1 (.cells #[.int .i64 0, .int .i64 0] 24))
  have hB2 := hB1.trans ((newB W1 (.cells #[.int .i64 0, .int .i64 0] 24)).mono hB1.size)
  have HM := Lib.hid (hm.below hB2)
  obtain ⟨d0, f0, d1, f1⟩ := two_new W1 0 0
  have hPs : W1.heap.size < (W1.alloc (.cells #[.int .i64 0, .int .i64 0] 24)).heap.size := by simp
  have hPB : w.heap.size < W1.heap.size := by omega
  clear hc hne hz hm hn hns hb0 hB1
  unfold Wd.val at hop ⊢
  generalize reply (habitR h xs ls i) = R at *
  go_enter Try.func15, Try.ntmps15
  go_wp2_with fail
  (try rw [hW1, hsz1])
  clear hW1 hsz1
  obtain ⟨c0, c1, c2, c3, c4, c5, c6, c7⟩ := hb2
  generalize hBw : w.heap.size = B at c0 c1 c2 c3 c4 c5 c6 c7 ⊢
  have HBw := Lib.hid hBw
  clear hBw
  generalize W1.alloc (.cells #[.int .i64 0, .int .i64 0] 24) = W at *
  generalize W1.heap.size = P at *
  refine wp_region_seq [(0, true), (1, true), (2, true), (3, true), (4, true), (5, false), (6, false), (7, true), (8, true), (9, true), (10, true), (11, true)] (fun w' => w'.cell? ⟨B, 0, none⟩ = some (.slice h.a h.n h.cap) ∧ w'.cell? ⟨B, 1, none⟩ = some (.int .i64 h.eLo) ∧ w'.cell? ⟨B, 2, none⟩ = some (.int .i64 h.eHi) ∧ w'.cell? ⟨B, 3, none⟩ = some (.int .i64 h.images) ∧ w'.cell? ⟨B, 4, none⟩ = some (.int .i64 h.eyes) ∧ w'.cell? ⟨B, 5, none⟩ = some (.int .i64 h.hLo) ∧ w'.cell? ⟨B, 6, none⟩ = some (.int .i64 h.hHi) ∧ w'.cell? ⟨B, 7, none⟩ = some (.slice h.la h.ln h.lcap)) (by kernel_rfl) (by kernel_rfl) (fun _ _ d _ _ h => by cases d <;> exact h) ⟨c0, c1, c2, c3, c4, c5, c6, c7⟩ ?_
  have hb9 := Below.drew (Below.refl W.heap.size W)
  have c0 := cellB c0 hb9
  have c1 := cellB c1 hb9
  have c2 := cellB c2 hb9
  have c3 := cellB c3 hb9
  have c4 := cellB c4 hb9
  have c5 := cellB c5 hb9
  have c6 := cellB c6 hb9
  have c7 := cellB c7 hb9
  have d0 := cellB d0 hb9
  have d1 := cellB d1 hb9
  have f0 := (hb9.frozen (p := ⟨P, 0, none⟩) hPs).trans f0
  have f1 := (hb9.frozen (p := ⟨P, 1, none⟩) hPs).trans f1
  have HM := Lib.hid (HM.out.below hb9)
  have hPs := Nat.lt_of_lt_of_le hPs hb9.size
  have hB2 := hB2.trans (hb9.mono hB2.size)
  clear hb9
  generalize W.drew = X at *
  repeat (first | (refine seq_read rfl (by rfl) _ (fun w' hS => by (try dsimp only at hS); go_simp; (try with_reducible rfl)) ?_; (try simp only [Act.put, List.setIfInBounds_toArray, List.set_cons_zero, List.set_cons_succ])) | (refine seq_skip rfl (by rfl) ?_; (try simp only [Act.put, List.setIfInBounds_toArray, List.set_cons_zero, List.set_cons_succ])))
  refine seq_do rfl (by rfl) (fun K hK => ?_)
  go_simp
  refine (hinn.out i _).mono ?_
  rintro e w2 ⟨rfl, hb2⟩
  have c0 := cellB c0 hb2
  have c1 := cellB c1 hb2
  have c2 := cellB c2 hb2
  have c3 := cellB c3 hb2
  have c4 := cellB c4 hb2
  have c5 := cellB c5 hb2
  have c6 := cellB c6 hb2
  have c7 := cellB c7 hb2
  have d0 := cellB d0 hb2
  have d1 := cellB d1 hb2
  have f0 := (hb2.frozen (p := ⟨P, 0, none⟩) hPs).trans f0
  have f1 := (hb2.frozen (p := ⟨P, 1, none⟩) hPs).trans f1
  have HM := Lib.hid (HM.out.below hb2)
  have hPs := Nat.lt_of_lt_of_le hPs hb2.size
  have hB2 := hB2.trans (hb2.mono hB2.size)
  refine hK _ _ ⟨c0, c1, c2, c3, c4, c5, c6, c7⟩ ?_
  clear hK K hb2
  (try simp only [Act.put, List.setIfInBounds_toArray, List.set_cons_zero, List.set_cons_succ])
  repeat (first | (refine seq_read rfl (by rfl) _ (fun w' hS => by (try dsimp only at hS); go_simp; (try with_reducible rfl)) ?_; (try simp only [Act.put, List.setIfInBounds_toArray, List.set_cons_zero, List.set_cons_succ])) | (refine seq_skip rfl (by rfl) ?_; (try simp only [Act.put, List.setIfInBounds_toArray, List.set_cons_zero, List.set_cons_succ])))
  refine seq_do rfl (by rfl) (fun K hK => ?_)
  go_simp
  refine (hop.out _ HM.out).mono ?_
  rintro e w3 ⟨hb3, v, rfl, hin⟩
  have c0 := cellB c0 hb3
  have c1 := cellB c1 hb3
  have c2 := cellB c2 hb3
  have c3 := cellB c3 hb3
  have c4 := cellB c4 hb3
  have c5 := cellB c5 hb3
  have c6 := cellB c6 hb3
  have c7 := cellB c7 hb3
  have d0 := cellB d0 hb3
  have d1 := cellB d1 hb3
  have f0 := (hb3.frozen (p := ⟨P, 0, none⟩) hPs).trans f0
  have f1 := (hb3.frozen (p := ⟨P, 1, none⟩) hPs).trans f1
  have HIN := Lib.hid hin
  clear hin
  have hPs := Nat.lt_of_lt_of_le hPs hb3.size
  have hB2 := hB2.trans (hb3.mono hB2.size)
  refine hK _ _ ⟨c0, c1, c2, c3, c4, c5, c6, c7⟩ ?_
  clear hK K hb3
  (try simp only [Act.put, List.setIfInBounds_toArray, List.set_cons_zero, List.set_cons_succ])
  repeat (first | (refine seq_read rfl (by rfl) _ (fun w' hS => by (try dsimp only at hS); go_simp; (try with_reducible rfl)) ?_; (try simp only [Act.put, List.setIfInBounds_toArray, List.set_cons_zero, List.set_cons_succ])) | (refine seq_skip rfl (by rfl) ?_; (try simp only [Act.put, List.setIfInBounds_toArray, List.set_cons_zero, List.set_cons_succ])))
  apply seq_end
  first | show Exit.inBlock _ _ Exit.normal _ _ | show Exit.then _ _ Exit.normal _ _ | skip
  by_cases hc0 : c = 0
  · subst hc0
    obtain ⟨k, rfl, ⟨k1, k2, k3⟩, n1, n2, hR⟩ := HZ.out rfl
    obtain ⟨gb, bc, gs, cs, rfl, g1, g2, g3, g4⟩ := HIN.out rfl
    obtain ⟨m, hm⟩ : ∃ m : Nat, 1 + k = m := ⟨_, rfl⟩
    rw [hm] at k1 n1 n2 hR
    have h1k : IntKind.i64.wrap (1 + (k : Int)) = (m : Int) := by rw [IntWalk.i64_in _ (by omega)]; omega
    have hmi : (m : Int) < (refN h : Int) := by omega
    have hm0 : (0 : Int) ≤ (m : Int) := by omega
    have h0i : (0 : Int) < (refN h : Int) := by omega
    have hN0 : 0 < refN h := by omega
    go_wp2_with fail
    have q0 := g4 m 0 (by omega) (by omega)
    have q1 := g4 0 m (by omega) (by omega)
    have a0 := g3 m (by omega)
    have a1 := g3 0 (by omega)
    have gr0 := g2 m (by omega)
    have gr1 := g2 0 (by omega)
    clear g2 g3 g4 HIN HZ HNE hop hinn HM
    generalize refD h xs ls m 0 = x at *
    generalize refD h xs ls 0 m = y at *
    generalize refN h = N at *
    have hneg : IntKind.i64.wrap (-x) = -x := IntWalk.i64_in _ (by unfold NB at n1; omega)
    have hbP : P ≠ gb := by omega
    have hb0 : P ≠ gs (m) := by omega
    have hb1 : P ≠ gs (0) := by omega
    refine wp_region_seq [(0, true), (1, true), (2, true), (3, true), (4, true), (5, true), (6, true), (7, true), (8, true), (9, true), (10, true), (11, true), (12, true), (13, true), (14, true), (15, true), (16, false), (17, true)] (fun w' => w'.cell? ⟨gb, m, none⟩ = some (.slice (some ⟨gs (m), 0, none⟩) N (cs (m))) ∧ w'.cell? ⟨gb, 0, none⟩ = some (.slice (some ⟨gs (0), 0, none⟩) N (cs (0))) ∧ w'.cell? ⟨gs (m), 0, none⟩ = some (.int .i64 x) ∧ w'.cell? ⟨gs (0), m, none⟩ = some (.int .i64 y)) (by kernel_rfl) (by kernel_rfl) (fun _ _ d _ _ h => by cases d <;> exact h) ⟨a0, a1, q0, q1⟩ ?_
    have hb9 := Below.drew (Below.refl w3.heap.size w3)
    have d0 := cellB d0 hb9
    have d1 := cellB d1 hb9
    have a0 := cellB a0 hb9
    have a1 := cellB a1 hb9
    have q0 := cellB q0 hb9
    have q1 := cellB q1 hb9
    have f0 := (hb9.frozen (p := ⟨P, 0, none⟩) hPs).trans f0
    have f1 := (hb9.frozen (p := ⟨P, 1, none⟩) hPs).trans f1
    have hB3 := hB2.trans (hb9.mono hB2.size)
    clear hb9 hB2
    generalize w3.drew = Y at *
    repeat (first | (refine seq_read rfl (by rfl) _ (fun w' hS => by (try dsimp only at hS); go_simp; (try with_reducible rfl)) ?_; (try simp only [Act.put, List.setIfInBounds_toArray, List.set_cons_zero, List.set_cons_succ])) | (refine seq_skip rfl (by rfl) ?_; (try simp only [Act.put, List.setIfInBounds_toArray, List.set_cons_zero, List.set_cons_succ])))
    refine seq_do rfl (by rfl) (fun K hK => ?_)
    go_simp
    have o : ∀ (p : Addr) (v : Value), p.block ≠ P → Y.cell? p = some v → ((Y.setCell ⟨P, 0, none⟩ (.int .i64 (-x))).setCell ⟨P, 1, none⟩ (.int .i64 y)).cell? p = some v := fun p v hp hv => by
      rw [World.cell?_setCell_other _ _ _ _ (by rintro rfl; exact hp rfl), World.cell?_setCell_other _ _ _ _ (by rintro rfl; exact hp rfl)]; exact hv
    refine hK _ _ ⟨o _ _ (Ne.symm hbP) a0, o _ _ (Ne.symm hbP) a1, o _ _ (Ne.symm hb0) q0, o _ _ (Ne.symm hb1) q1⟩ ?_
    clear hK K o
    (try simp only [Act.put, List.setIfInBounds_toArray, List.set_cons_zero, List.set_cons_succ])
    repeat (first | (refine seq_read rfl (by rfl) _ (fun w' hS => by (try dsimp only at hS); go_simp; (try with_reducible rfl)) ?_; (try simp only [Act.put, List.setIfInBounds_toArray, List.set_cons_zero, List.set_cons_succ])) | (refine seq_skip rfl (by rfl) ?_; (try simp only [Act.put, List.setIfInBounds_toArray, List.set_cons_zero, List.set_cons_succ])))
    apply seq_end
    first | show Exit.inBlock _ _ Exit.normal _ _ | show Exit.then _ _ Exit.normal _ _ | skip
    have hB9 := (hB3.setCell (p := ⟨P, 0, none⟩) (Nat.le_of_lt hPB) (.int .i64 (-x))).setCell (p := ⟨P, 1, none⟩) (Nat.le_of_lt hPB) (.int .i64 y)
    go_wp2_with fail
    exact bodyPost_ret (v := .tuple #[.agg #[.int .i64 (-x), .int .i64 y], .int .i64 0]) (by simp [results, Try.results15, go_sem, d0, d1]) rfl ⟨by rw [hR], hB9⟩
  · have hR := HNE.out hc0
    have hcb : (c != 0) = true := bne_iff_ne.2 hc0
    have hB9 := (hB2.setCell (p := ⟨P, 0, none⟩) (Nat.le_of_lt hPB) (.int .i64 0)).setCell (p := ⟨P, 1, none⟩) (Nat.le_of_lt hPB) (.int .i64 0)
    clear HIN HNE HZ
    go_wp2_with fail
    exact bodyPost_ret (v := .tuple #[.agg #[.int .i64 0, .int .i64 0], .int .i64 c]) (by simp [results, Try.results15, go_sem, d0, d1]) rfl ⟨by rw [hR], hB9⟩
set_option maxRecDepth 100000 in
set_option maxHeartbeats 2000000 in
theorem canR_any (h : Wd) (xs : List (Int × Int)) (ls : List LkV) (S : Int) (w : World) (hm : HasW w h xs ls) (hv : validW h xs ls = true) (hn : xs.length ≤ 100) (hS : 0 ≤ S ∧ S < 4096) :
    Calls Try.prog 64 #[h.val, .int .i64 S] w (Ret (.bool (canW h (ls.map (travOf h xs)) ls h.eyes.toNat S (allS h.eyes.toNat))) w) := by
  have r := ro_of hv hm.nl
  have hall : Hid (∀ Y, Calls Try.prog 63 #[h.val] Y (Ret (.tuple #[.int .i64 (allS h.ln), .int .i64 (allS h.eyes.toNat)]) Y)) := fun Y => allR_any h h.eyes.toNat Y r.w.eE r.w.e4 (by rw [← hm.nl]; exact r.w.l12)
  have hof : Hid (∀ Y, HasW Y h xs ls → Calls Try.prog 69 #[h.val, .int .i64 S, .int .i64 (allS h.eyes.toNat)] Y (OfOut Y (refN h) (ofM h (ls.map (travOf h xs)) ls h.eyes.toNat h.images.toNat S (allS h.eyes.toNat)))) := fun Y hY => of_any h xs ls S (allS h.eyes.toNat) Y hY hv hn hS (allS_rng (by have := r.w.e4; omega))
  have hcr : Hid (goodB (refN h) (ofM h (ls.map (travOf h xs)) ls h.eyes.toNat h.images.toNat S (allS h.eyes.toNat)) = canW h (ls.map (travOf h xs)) ls h.eyes.toNat S (allS h.eyes.toNat)) := can_ref hv hm.nl S _
  have hb0 : BoxW (w.alloc (.cells #[.slice h.a h.n h.cap, .int .i64 h.eLo, .int .i64 h.eHi, .int .i64 h.images, .int .i64 h.eyes, .int .i64 h.hLo, .int .i64 h.hHi, .slice h.la h.ln h.lcap] 29)) w.heap.size h := boxW_new w h _
  have hW0 : Below w.heap.size w (w.alloc (.cells #[.slice h.a h.n h.cap, .int .i64 h.eLo, .int .i64 h.eHi, .int .i64 h.images, .int .i64 h.eyes, .int .i64 h.hLo, .int .i64 h.hHi, .slice h.la h.ln h.lcap] 29)) := newB _ _
  have HM := Lib.hid (hm.below hW0)
  unfold OfOut at hof
  generalize allS h.eyes.toNat = H at *
  generalize canW h (ls.map (travOf h xs)) ls h.eyes.toNat S H = R at *
  generalize ofM h (ls.map (travOf h xs)) ls h.eyes.toNat h.images.toNat S H = D at *
  generalize allS h.ln = L at *
  generalize refN h = n at *
  generalize goodB n D = gd at *
  obtain ⟨c0, c1, c2, c3, c4, c5, c6, c7⟩ := hb0
  clear hm hn r hv hS
  unfold Wd.val at hall hof ⊢
  go_enter Try.func64, Try.ntmps64
  go_wp2_with fail
  generalize w.alloc (.cells #[.slice h.a h.n h.cap, .int .i64 h.eLo, .int .i64 h.eHi, .int .i64 h.images, .int .i64 h.eyes, .int .i64 h.hLo, .int .i64 h.hHi, .slice h.la h.ln h.lcap] 29) = W at *
  generalize hBw : w.heap.size = B at c0 c1 c2 c3 c4 c5 c6 c7 ⊢
  have HBw := Lib.hid hBw
  clear hBw
  refine (hall.out W).mono ?_
  rintro e w1 ⟨rfl, hb1⟩
  have c0 := cellB c0 hb1
  have c1 := cellB c1 hb1
  have c2 := cellB c2 hb1
  have c3 := cellB c3 hb1
  have c4 := cellB c4 hb1
  have c5 := cellB c5 hb1
  have c6 := cellB c6 hb1
  have c7 := cellB c7 hb1
  have hB1 := hW0.trans (hb1.mono hW0.size)
  have HM := Lib.hid (HM.out.below hb1)
  clear hb1 hW0
  go_wp2_with fail
  refine (hof.out w1 HM.out).mono ?_
  rintro e w3 ⟨hb3, hof3⟩
  have hB3 := hB1.trans (hb3.mono hB1.size)
  cases gd
  · rw [if_neg (by simp)] at hof3
    subst hof3
    go_wp2_with fail
    go_ret
    exact ⟨by rw [← hcr.out]; rfl, hB3⟩
  · rw [if_pos rfl] at hof3
    obtain ⟨v, rfl, hin⟩ := hof3
    obtain ⟨gb, bc, gs, cs, rfl, _, _, _, _⟩ := hin
    go_wp2_with fail
    go_ret
    exact ⟨by rw [← hcr.out]; rfl, hB3⟩
set_option maxRecDepth 100000 in
set_option maxHeartbeats 4000000 in
theorem placeRf_any (h : Wd) (xs : List (Int × Int)) (ls : List LkV) (i : Int) (w : World) (hm : HasW w h xs ls) (hn : xs.length ≤ 100) (hns : ls.length ≤ 40) :
    Calls Try.prog 19 #[h.val, .int .i64 i] w (Ret (reply (placeR h xs ls i)) w) := by
  obtain ⟨c, hc, hne, hz⟩ := place_facts' hm.nl i
  have hnb : NB 0 := by unfold NB; omega
  have hop : Hid (∀ Y, HasW Y h xs ls → Calls Try.prog 47 #[h.val, .bool (okE h.images i)] Y (OpenOut Y h xs ls c)) := fun Y hY => by rw [← hc]; exact openR_any h xs ls _ Y hY hn hns
  have hinn : Hid (∀ i : Int, ∀ Y, Calls Try.prog 48 #[.int .i64 i, .int .i64 0, .int .i64 (IntKind.i64.wrap (h.images - 1))] Y (Ret (.bool (okE h.images i)) Y)) := fun i Y => in3_any i 0 _ Y
  have HZ := Lib.hid hz
  have HNE := Lib.hid hne
  obtain ⟨W1, hW1⟩ : ∃ W1 : World, w.alloc (.cells #[.slice h.a h.n h.cap, .int .i64 h.eLo, .int .i64 h.eHi, .int .i64 h.images, .int .i64 h.eyes, .int .i64 h.hLo, .int .i64 h.hHi, .slice h.la h.ln h.lcap] 29) = W1 := ⟨_, rfl⟩
  have hb0 : BoxW W1 w.heap.size h := hW1 ▸ boxW_new w h _
  have hB1 : Below w.heap.size w W1 := hW1 ▸ newB _ _
  have hsz1 : w.heap.size + 1 = W1.heap.size := by rw [← hW1]; simp
  have hb2 := hb0.grown (newB W1 (.cells #[.int .i64 0, .int .i64 0] 24))
  have hB2 := hB1.trans ((newB W1 (.cells #[.int .i64 0, .int .i64 0] 24)).mono hB1.size)
  have HM := Lib.hid (hm.below hB2)
  obtain ⟨d0, f0, d1, f1⟩ := two_new W1 0 0
  have hPs : W1.heap.size < (W1.alloc (.cells #[.int .i64 0, .int .i64 0] 24)).heap.size := by simp
  have hPB : w.heap.size < W1.heap.size := by omega
  clear hc hne hz hm hn hns hb0 hB1
  unfold Wd.val at hop ⊢
  generalize reply (placeR h xs ls i) = R at *
  go_enter Try.func19, Try.ntmps19
  go_wp2_with fail
  (try rw [hW1, hsz1])
  clear hW1 hsz1
  obtain ⟨c0, c1, c2, c3, c4, c5, c6, c7⟩ := hb2
  generalize hBw : w.heap.size = B at c0 c1 c2 c3 c4 c5 c6 c7 ⊢
  have HBw := Lib.hid hBw
  clear hBw
  generalize W1.alloc (.cells #[.int .i64 0, .int .i64 0] 24) = W at *
  generalize W1.heap.size = P at *
  refine wp_region_seq [(0, true), (1, true), (2, true), (3, true), (4, true), (5, false), (6, false), (7, true), (8, true), (9, true), (10, true), (11, true)] (fun w' => w'.cell? ⟨B, 0, none⟩ = some (.slice h.a h.n h.cap) ∧ w'.cell? ⟨B, 1, none⟩ = some (.int .i64 h.eLo) ∧ w'.cell? ⟨B, 2, none⟩ = some (.int .i64 h.eHi) ∧ w'.cell? ⟨B, 3, none⟩ = some (.int .i64 h.images) ∧ w'.cell? ⟨B, 4, none⟩ = some (.int .i64 h.eyes) ∧ w'.cell? ⟨B, 5, none⟩ = some (.int .i64 h.hLo) ∧ w'.cell? ⟨B, 6, none⟩ = some (.int .i64 h.hHi) ∧ w'.cell? ⟨B, 7, none⟩ = some (.slice h.la h.ln h.lcap)) (by kernel_rfl) (by kernel_rfl) (fun _ _ d _ _ h => by cases d <;> exact h) ⟨c0, c1, c2, c3, c4, c5, c6, c7⟩ ?_
  have hb9 := Below.drew (Below.refl W.heap.size W)
  have c0 := cellB c0 hb9
  have c1 := cellB c1 hb9
  have c2 := cellB c2 hb9
  have c3 := cellB c3 hb9
  have c4 := cellB c4 hb9
  have c5 := cellB c5 hb9
  have c6 := cellB c6 hb9
  have c7 := cellB c7 hb9
  have d0 := cellB d0 hb9
  have d1 := cellB d1 hb9
  have f0 := (hb9.frozen (p := ⟨P, 0, none⟩) hPs).trans f0
  have f1 := (hb9.frozen (p := ⟨P, 1, none⟩) hPs).trans f1
  have HM := Lib.hid (HM.out.below hb9)
  have hPs := Nat.lt_of_lt_of_le hPs hb9.size
  have hB2 := hB2.trans (hb9.mono hB2.size)
  clear hb9
  generalize W.drew = X at *
  repeat (first | (refine seq_read rfl (by rfl) _ (fun w' hS => by (try dsimp only at hS); go_simp; (try with_reducible rfl)) ?_; (try simp only [Act.put, List.setIfInBounds_toArray, List.set_cons_zero, List.set_cons_succ])) | (refine seq_skip rfl (by rfl) ?_; (try simp only [Act.put, List.setIfInBounds_toArray, List.set_cons_zero, List.set_cons_succ])))
  refine seq_do rfl (by rfl) (fun K hK => ?_)
  go_simp
  refine (hinn.out i _).mono ?_
  rintro e w2 ⟨rfl, hb2⟩
  have c0 := cellB c0 hb2
  have c1 := cellB c1 hb2
  have c2 := cellB c2 hb2
  have c3 := cellB c3 hb2
  have c4 := cellB c4 hb2
  have c5 := cellB c5 hb2
  have c6 := cellB c6 hb2
  have c7 := cellB c7 hb2
  have d0 := cellB d0 hb2
  have d1 := cellB d1 hb2
  have f0 := (hb2.frozen (p := ⟨P, 0, none⟩) hPs).trans f0
  have f1 := (hb2.frozen (p := ⟨P, 1, none⟩) hPs).trans f1
  have HM := Lib.hid (HM.out.below hb2)
  have hPs := Nat.lt_of_lt_of_le hPs hb2.size
  have hB2 := hB2.trans (hb2.mono hB2.size)
  refine hK _ _ ⟨c0, c1, c2, c3, c4, c5, c6, c7⟩ ?_
  clear hK K hb2
  (try simp only [Act.put, List.setIfInBounds_toArray, List.set_cons_zero, List.set_cons_succ])
  repeat (first | (refine seq_read rfl (by rfl) _ (fun w' hS => by (try dsimp only at hS); go_simp; (try with_reducible rfl)) ?_; (try simp only [Act.put, List.setIfInBounds_toArray, List.set_cons_zero, List.set_cons_succ])) | (refine seq_skip rfl (by rfl) ?_; (try simp only [Act.put, List.setIfInBounds_toArray, List.set_cons_zero, List.set_cons_succ])))
  refine seq_do rfl (by rfl) (fun K hK => ?_)
  go_simp
  refine (hop.out _ HM.out).mono ?_
  rintro e w3 ⟨hb3, v, rfl, hin⟩
  have c0 := cellB c0 hb3
  have c1 := cellB c1 hb3
  have c2 := cellB c2 hb3
  have c3 := cellB c3 hb3
  have c4 := cellB c4 hb3
  have c5 := cellB c5 hb3
  have c6 := cellB c6 hb3
  have c7 := cellB c7 hb3
  have d0 := cellB d0 hb3
  have d1 := cellB d1 hb3
  have f0 := (hb3.frozen (p := ⟨P, 0, none⟩) hPs).trans f0
  have f1 := (hb3.frozen (p := ⟨P, 1, none⟩) hPs).trans f1
  have HIN := Lib.hid hin
  clear hin
  have hPs := Nat.lt_of_lt_of_le hPs hb3.size
  have hB2 := hB2.trans (hb3.mono hB2.size)
  refine hK _ _ ⟨c0, c1, c2, c3, c4, c5, c6, c7⟩ ?_
  clear hK K hb3
  (try simp only [Act.put, List.setIfInBounds_toArray, List.set_cons_zero, List.set_cons_succ])
  repeat (first | (refine seq_read rfl (by rfl) _ (fun w' hS => by (try dsimp only at hS); go_simp; (try with_reducible rfl)) ?_; (try simp only [Act.put, List.setIfInBounds_toArray, List.set_cons_zero, List.set_cons_succ])) | (refine seq_skip rfl (by rfl) ?_; (try simp only [Act.put, List.setIfInBounds_toArray, List.set_cons_zero, List.set_cons_succ])))
  apply seq_end
  first | show Exit.inBlock _ _ Exit.normal _ _ | show Exit.then _ _ Exit.normal _ _ | skip
  by_cases hc0 : c = 0
  · subst hc0
    obtain ⟨k, E, rfl, hE, ⟨k1, k2, k3, k4⟩, n1, n2, hR⟩ := HZ.out rfl
    obtain ⟨gb, bc, gs, cs, rfl, g1, g2, g3, g4⟩ := HIN.out rfl
    obtain ⟨m, hm⟩ : ∃ m : Nat, 1 + E + k = m := ⟨_, rfl⟩
    rw [hm] at k1 n1 n2 hR
    have h1k : (1 : Int) + (E : Int) + (k : Int) = (m : Int) := by omega
    have hk0 : (0 : Int) ≤ (k : Int) := by omega
    have hE0 : (0 : Int) ≤ (E : Int) := by omega
    have hmi : (m : Int) < (refN h : Int) := by omega
    have hm0 : (0 : Int) ≤ (m : Int) := by omega
    have h0i : (0 : Int) < (refN h : Int) := by omega
    have hN0 : 0 < refN h := by omega
    rw [hE] at c4
    clear hE
    have a0' := g3 0 (by omega)
    have q0' := g4 0 m (by omega) (by omega)
    by_cases hfar : refD h xs ls 0 m = 1073741824
    · rw [if_pos hfar] at hR
      have hB9 := (hB2.setCell (p := ⟨P, 0, none⟩) (Nat.le_of_lt hPB) (.int .i64 0)).setCell (p := ⟨P, 1, none⟩) (Nat.le_of_lt hPB) (.int .i64 0)
      clear g2 g3 g4 HIN HZ HNE hop hinn HM n1 n2
      generalize refD h xs ls 0 m = y at *
      generalize refN h = N at *
      go_wp2_with fail
      exact bodyPost_ret (v := .tuple #[.agg #[.int .i64 0, .int .i64 0], .int .i64 12]) (by simp [results, Try.results19, go_sem, d0, d1]) rfl ⟨by rw [hR], hB9⟩
    · rw [if_neg hfar] at hR
      go_wp2_with fail
      have q0 := g4 m 0 (by omega) (by omega)
      have q1 := g4 0 m (by omega) (by omega)
      have a0 := g3 m (by omega)
      have a1 := g3 0 (by omega)
      have gr0 := g2 m (by omega)
      have gr1 := g2 0 (by omega)
      clear g2 g3 g4 HIN HZ HNE hop hinn HM
      generalize refD h xs ls m 0 = x at *
      generalize refD h xs ls 0 m = y at *
      generalize refN h = N at *
      have hneg : IntKind.i64.wrap (-x) = -x := IntWalk.i64_in _ (by unfold NB at n1; omega)
      have hbP : P ≠ gb := by omega
      have hb0 : P ≠ gs (m) := by omega
      have hb1 : P ≠ gs (0) := by omega
      refine wp_region_seq [(0, true), (1, true), (2, true), (3, true), (4, true), (5, true), (6, true), (7, true), (8, true), (9, true), (10, true), (11, true), (12, true), (13, true), (14, false), (15, true)] (fun w' => w'.cell? ⟨gb, m, none⟩ = some (.slice (some ⟨gs (m), 0, none⟩) N (cs (m))) ∧ w'.cell? ⟨gb, 0, none⟩ = some (.slice (some ⟨gs (0), 0, none⟩) N (cs (0))) ∧ w'.cell? ⟨gs (m), 0, none⟩ = some (.int .i64 x) ∧ w'.cell? ⟨gs (0), m, none⟩ = some (.int .i64 y)) (by kernel_rfl) (by kernel_rfl) (fun _ _ d _ _ h => by cases d <;> exact h) ⟨a0, a1, q0, q1⟩ ?_
      have hb9 := Below.drew (Below.refl w3.heap.size w3)
      have d0 := cellB d0 hb9
      have d1 := cellB d1 hb9
      have a0 := cellB a0 hb9
      have a1 := cellB a1 hb9
      have q0 := cellB q0 hb9
      have q1 := cellB q1 hb9
      have f0 := (hb9.frozen (p := ⟨P, 0, none⟩) hPs).trans f0
      have f1 := (hb9.frozen (p := ⟨P, 1, none⟩) hPs).trans f1
      have hB3 := hB2.trans (hb9.mono hB2.size)
      clear hb9 hB2
      generalize w3.drew = Y at *
      repeat (first | (refine seq_read rfl (by rfl) _ (fun w' hS => by (try dsimp only at hS); go_simp; (try with_reducible rfl)) ?_; (try simp only [Act.put, List.setIfInBounds_toArray, List.set_cons_zero, List.set_cons_succ])) | (refine seq_skip rfl (by rfl) ?_; (try simp only [Act.put, List.setIfInBounds_toArray, List.set_cons_zero, List.set_cons_succ])))
      refine seq_do rfl (by rfl) (fun K hK => ?_)
      go_simp
      have o : ∀ (p : Addr) (v : Value), p.block ≠ P → Y.cell? p = some v → ((Y.setCell ⟨P, 0, none⟩ (.int .i64 (-x))).setCell ⟨P, 1, none⟩ (.int .i64 y)).cell? p = some v := fun p v hp hv => by
        rw [World.cell?_setCell_other _ _ _ _ (by rintro rfl; exact hp rfl), World.cell?_setCell_other _ _ _ _ (by rintro rfl; exact hp rfl)]; exact hv
      refine hK _ _ ⟨o _ _ (Ne.symm hbP) a0, o _ _ (Ne.symm hbP) a1, o _ _ (Ne.symm hb0) q0, o _ _ (Ne.symm hb1) q1⟩ ?_
      clear hK K o
      (try simp only [Act.put, List.setIfInBounds_toArray, List.set_cons_zero, List.set_cons_succ])
      repeat (first | (refine seq_read rfl (by rfl) _ (fun w' hS => by (try dsimp only at hS); go_simp; (try with_reducible rfl)) ?_; (try simp only [Act.put, List.setIfInBounds_toArray, List.set_cons_zero, List.set_cons_succ])) | (refine seq_skip rfl (by rfl) ?_; (try simp only [Act.put, List.setIfInBounds_toArray, List.set_cons_zero, List.set_cons_succ])))
      apply seq_end
      first | show Exit.inBlock _ _ Exit.normal _ _ | show Exit.then _ _ Exit.normal _ _ | skip
      have hB9 := (hB3.setCell (p := ⟨P, 0, none⟩) (Nat.le_of_lt hPB) (.int .i64 (-x))).setCell (p := ⟨P, 1, none⟩) (Nat.le_of_lt hPB) (.int .i64 y)
      go_wp2_with fail
      exact bodyPost_ret (v := .tuple #[.agg #[.int .i64 (-x), .int .i64 y], .int .i64 0]) (by simp [results, Try.results19, go_sem, d0, d1]) rfl ⟨by rw [hR], hB9⟩
  · have hR := HNE.out hc0
    have hcb : (c != 0) = true := bne_iff_ne.2 hc0
    have hB9 := (hB2.setCell (p := ⟨P, 0, none⟩) (Nat.le_of_lt hPB) (.int .i64 0)).setCell (p := ⟨P, 1, none⟩) (Nat.le_of_lt hPB) (.int .i64 0)
    clear HIN HNE HZ
    go_wp2_with fail
    exact bodyPost_ret (v := .tuple #[.agg #[.int .i64 0, .int .i64 0], .int .i64 c]) (by simp [results, Try.results19, go_sem, d0, d1]) rfl ⟨by rw [hR], hB9⟩
set_option maxRecDepth 100000 in
set_option maxHeartbeats 4000000 in
theorem betweenR_any (h : Wd) (xs : List (Int × Int)) (ls : List LkV) (i j : Int) (w : World) (hm : HasW w h xs ls) (hn : xs.length ≤ 100) (hns : ls.length ≤ 40) :
    Calls Try.prog 17 #[h.val, .int .i64 i, .int .i64 j] w (Ret (reply (betweenR h xs ls i j)) w) := by
  obtain ⟨c, hc, hne, hz⟩ := between_facts hm.nl i j
  have hnb : NB 0 := by unfold NB; omega
  have hop : Hid (∀ Y, HasW Y h xs ls → Calls Try.prog 47 #[h.val, .bool (okE h.eyes i && okE h.eyes j)] Y (OpenOut Y h xs ls c)) := fun Y hY => by rw [← hc]; exact openR_any h xs ls _ Y hY hn hns
  have hinn : Hid (∀ i : Int, ∀ Y, Calls Try.prog 48 #[.int .i64 i, .int .i64 0, .int .i64 (IntKind.i64.wrap (h.eyes - 1))] Y (Ret (.bool (okE h.eyes i)) Y)) := fun i Y => in3_any i 0 _ Y
  have HZ := Lib.hid hz
  have HNE := Lib.hid hne
  obtain ⟨W1, hW1⟩ : ∃ W1 : World, w.alloc (.cells #[.slice h.a h.n h.cap, .int .i64 h.eLo, .int .i64 h.eHi, .int .i64 h.images, .int .i64 h.eyes, .int .i64 h.hLo, .int .i64 h.hHi, .slice h.la h.ln h.lcap] 29) = W1 := ⟨_, rfl⟩
  have hb0 : BoxW W1 w.heap.size h := hW1 ▸ boxW_new w h _
  have hB1 : Below w.heap.size w W1 := hW1 ▸ newB _ _
  have hsz1 : w.heap.size + 1 = W1.heap.size := by rw [← hW1]; simp
  have hb2 := hb0.grown (newB W1 (.cells #[.int .i64 0, .int .i64 0] 24))
  have hB2 := hB1.trans ((newB W1 (.cells #[.int .i64 0, .int .i64 0] 24)).mono hB1.size)
  have HM := Lib.hid (hm.below hB2)
  obtain ⟨d0, f0, d1, f1⟩ := two_new W1 0 0
  have hPs : W1.heap.size < (W1.alloc (.cells #[.int .i64 0, .int .i64 0] 24)).heap.size := by simp
  have hPB : w.heap.size < W1.heap.size := by omega
  clear hc hne hz hm hn hns hb0 hB1
  unfold Wd.val at hop ⊢
  generalize reply (betweenR h xs ls i j) = R at *
  go_enter Try.func17, Try.ntmps17
  go_wp2_with fail
  (try rw [hW1, hsz1])
  clear hW1 hsz1
  obtain ⟨c0, c1, c2, c3, c4, c5, c6, c7⟩ := hb2
  generalize hBw : w.heap.size = B at c0 c1 c2 c3 c4 c5 c6 c7 ⊢
  have HBw := Lib.hid hBw
  clear hBw
  generalize W1.alloc (.cells #[.int .i64 0, .int .i64 0] 24) = W at *
  generalize W1.heap.size = P at *
  cases hk : okE h.eyes i
  · rw [hk] at hop
    simp only [Bool.false_and] at hop
    refine wp_region_seq [(0, true), (1, true), (2, true), (3, true), (4, true), (5, false), (6, true), (7, true), (8, true), (9, true), (10, true), (11, false), (12, true), (13, false), (14, true), (15, true), (16, true), (17, true), (18, true)] (fun w' => w'.cell? ⟨B, 0, none⟩ = some (.slice h.a h.n h.cap) ∧ w'.cell? ⟨B, 1, none⟩ = some (.int .i64 h.eLo) ∧ w'.cell? ⟨B, 2, none⟩ = some (.int .i64 h.eHi) ∧ w'.cell? ⟨B, 3, none⟩ = some (.int .i64 h.images) ∧ w'.cell? ⟨B, 4, none⟩ = some (.int .i64 h.eyes) ∧ w'.cell? ⟨B, 5, none⟩ = some (.int .i64 h.hLo) ∧ w'.cell? ⟨B, 6, none⟩ = some (.int .i64 h.hHi) ∧ w'.cell? ⟨B, 7, none⟩ = some (.slice h.la h.ln h.lcap)) (by kernel_rfl) (by kernel_rfl) (fun _ _ d _ _ h => by cases d <;> exact h) ⟨c0, c1, c2, c3, c4, c5, c6, c7⟩ ?_
    have hb9 := Below.drew (Below.refl W.heap.size W)
    have c0 := cellB c0 hb9
    have c1 := cellB c1 hb9
    have c2 := cellB c2 hb9
    have c3 := cellB c3 hb9
    have c4 := cellB c4 hb9
    have c5 := cellB c5 hb9
    have c6 := cellB c6 hb9
    have c7 := cellB c7 hb9
    have d0 := cellB d0 hb9
    have d1 := cellB d1 hb9
    have f0 := (hb9.frozen (p := ⟨P, 0, none⟩) hPs).trans f0
    have f1 := (hb9.frozen (p := ⟨P, 1, none⟩) hPs).trans f1
    have HM := Lib.hid (HM.out.below hb9)
    have hPs := Nat.lt_of_lt_of_le hPs hb9.size
    have hB2 := hB2.trans (hb9.mono hB2.size)
    clear hb9
    generalize W.drew = X at *
    repeat (first | (refine seq_read rfl (by rfl) _ (fun w' hS => by (try dsimp only at hS); go_simp; (try with_reducible rfl)) ?_; (try simp only [Act.put, List.setIfInBounds_toArray, List.set_cons_zero, List.set_cons_succ])) | (refine seq_skip rfl (by rfl) ?_; (try simp only [Act.put, List.setIfInBounds_toArray, List.set_cons_zero, List.set_cons_succ])))
    refine seq_do rfl (by rfl) (fun K hK => ?_)
    go_simp
    refine (hinn.out i _).mono ?_
    rw [hk]
    rintro e w2 ⟨rfl, hb2⟩
    have c0 := cellB c0 hb2
    have c1 := cellB c1 hb2
    have c2 := cellB c2 hb2
    have c3 := cellB c3 hb2
    have c4 := cellB c4 hb2
    have c5 := cellB c5 hb2
    have c6 := cellB c6 hb2
    have c7 := cellB c7 hb2
    have d0 := cellB d0 hb2
    have d1 := cellB d1 hb2
    have f0 := (hb2.frozen (p := ⟨P, 0, none⟩) hPs).trans f0
    have f1 := (hb2.frozen (p := ⟨P, 1, none⟩) hPs).trans f1
    have HM := Lib.hid (HM.out.below hb2)
    have hPs := Nat.lt_of_lt_of_le hPs hb2.size
    have hB2 := hB2.trans (hb2.mono hB2.size)
    refine hK _ _ ⟨c0, c1, c2, c3, c4, c5, c6, c7⟩ ?_
    clear hK K hb2
    (try simp only [Act.put, List.setIfInBounds_toArray, List.set_cons_zero, List.set_cons_succ])
    repeat (first | (refine seq_read rfl (by rfl) _ (fun w' hS => by (try dsimp only at hS); go_simp; (try with_reducible rfl)) ?_; (try simp only [Act.put, List.setIfInBounds_toArray, List.set_cons_zero, List.set_cons_succ])) | (refine seq_skip rfl (by rfl) ?_; (try simp only [Act.put, List.setIfInBounds_toArray, List.set_cons_zero, List.set_cons_succ])))
    refine seq_do rfl (by rfl) (fun K hK => ?_)
    go_simp
    refine (hop.out _ HM.out).mono ?_
    rintro e w3 ⟨hb3, v, rfl, hin⟩
    have c0 := cellB c0 hb3
    have c1 := cellB c1 hb3
    have c2 := cellB c2 hb3
    have c3 := cellB c3 hb3
    have c4 := cellB c4 hb3
    have c5 := cellB c5 hb3
    have c6 := cellB c6 hb3
    have c7 := cellB c7 hb3
    have d0 := cellB d0 hb3
    have d1 := cellB d1 hb3
    have f0 := (hb3.frozen (p := ⟨P, 0, none⟩) hPs).trans f0
    have f1 := (hb3.frozen (p := ⟨P, 1, none⟩) hPs).trans f1
    have HIN := Lib.hid hin
    clear hin
    have hPs := Nat.lt_of_lt_of_le hPs hb3.size
    have hB2 := hB2.trans (hb3.mono hB2.size)
    refine hK _ _ ⟨c0, c1, c2, c3, c4, c5, c6, c7⟩ ?_
    clear hK K hb3
    (try simp only [Act.put, List.setIfInBounds_toArray, List.set_cons_zero, List.set_cons_succ])
    repeat (first | (refine seq_read rfl (by rfl) _ (fun w' hS => by (try dsimp only at hS); go_simp; (try with_reducible rfl)) ?_; (try simp only [Act.put, List.setIfInBounds_toArray, List.set_cons_zero, List.set_cons_succ])) | (refine seq_skip rfl (by rfl) ?_; (try simp only [Act.put, List.setIfInBounds_toArray, List.set_cons_zero, List.set_cons_succ])))
    apply seq_end
    first | show Exit.inBlock _ _ Exit.normal _ _ | show Exit.then _ _ Exit.normal _ _ | skip
    by_cases hc0 : c = 0
    · subst hc0
      obtain ⟨k, m, rfl, rfl, ⟨k1, k2, k3, k4, k5⟩, n1, n2, hR⟩ := HZ.out rfl
      obtain ⟨gb, bc, gs, cs, rfl, g1, g2, g3, g4⟩ := HIN.out rfl
      obtain ⟨a, ha⟩ : ∃ a : Nat, 1 + k = a := ⟨_, rfl⟩
      obtain ⟨b, hb⟩ : ∃ b : Nat, 1 + m = b := ⟨_, rfl⟩
      rw [ha] at k1 n1 n2 hR
      rw [hb] at k2 n1 n2 hR
      have h1k : IntKind.i64.wrap (1 + (k : Int)) = (a : Int) := by rw [IntWalk.i64_in _ (by omega)]; omega
      have h1m : IntKind.i64.wrap (1 + (m : Int)) = (b : Int) := by rw [IntWalk.i64_in _ (by omega)]; omega
      have hai : (a : Int) < (refN h : Int) := by omega
      have ha0 : (0 : Int) ≤ (a : Int) := by omega
      have hbi : (b : Int) < (refN h : Int) := by omega
      have hb0 : (0 : Int) ≤ (b : Int) := by omega
      go_wp2_with fail
      have q0 := g4 b a (by omega) (by omega)
      have q1 := g4 a b (by omega) (by omega)
      have a0 := g3 b (by omega)
      have a1 := g3 a (by omega)
      have gr0 := g2 b (by omega)
      have gr1 := g2 a (by omega)
      clear g2 g3 g4 HIN HZ HNE hop hinn HM
      generalize refD h xs ls b a = x at *
      generalize refD h xs ls a b = y at *
      generalize refN h = N at *
      have hneg : IntKind.i64.wrap (-x) = -x := IntWalk.i64_in _ (by unfold NB at n1; omega)
      have hbP : P ≠ gb := by omega
      have hb0 : P ≠ gs (b) := by omega
      have hb1 : P ≠ gs (a) := by omega
      refine wp_region_seq [(0, true), (1, true), (2, true), (3, true), (4, true), (5, true), (6, true), (7, true), (8, true), (9, true), (10, true), (11, true), (12, true), (13, true), (14, true), (15, true), (16, true), (17, true), (18, true), (19, true), (20, false), (21, true)] (fun w' => w'.cell? ⟨gb, b, none⟩ = some (.slice (some ⟨gs (b), 0, none⟩) N (cs (b))) ∧ w'.cell? ⟨gb, a, none⟩ = some (.slice (some ⟨gs (a), 0, none⟩) N (cs (a))) ∧ w'.cell? ⟨gs (b), a, none⟩ = some (.int .i64 x) ∧ w'.cell? ⟨gs (a), b, none⟩ = some (.int .i64 y)) (by kernel_rfl) (by kernel_rfl) (fun _ _ d _ _ h => by cases d <;> exact h) ⟨a0, a1, q0, q1⟩ ?_
      have hb9 := Below.drew (Below.refl w3.heap.size w3)
      have d0 := cellB d0 hb9
      have d1 := cellB d1 hb9
      have a0 := cellB a0 hb9
      have a1 := cellB a1 hb9
      have q0 := cellB q0 hb9
      have q1 := cellB q1 hb9
      have f0 := (hb9.frozen (p := ⟨P, 0, none⟩) hPs).trans f0
      have f1 := (hb9.frozen (p := ⟨P, 1, none⟩) hPs).trans f1
      have hB3 := hB2.trans (hb9.mono hB2.size)
      clear hb9 hB2
      generalize w3.drew = Y at *
      repeat (first | (refine seq_read rfl (by rfl) _ (fun w' hS => by (try dsimp only at hS); go_simp; (try with_reducible rfl)) ?_; (try simp only [Act.put, List.setIfInBounds_toArray, List.set_cons_zero, List.set_cons_succ])) | (refine seq_skip rfl (by rfl) ?_; (try simp only [Act.put, List.setIfInBounds_toArray, List.set_cons_zero, List.set_cons_succ])))
      refine seq_do rfl (by rfl) (fun K hK => ?_)
      go_simp
      have o : ∀ (p : Addr) (v : Value), p.block ≠ P → Y.cell? p = some v → ((Y.setCell ⟨P, 0, none⟩ (.int .i64 (-x))).setCell ⟨P, 1, none⟩ (.int .i64 y)).cell? p = some v := fun p v hp hv => by
        rw [World.cell?_setCell_other _ _ _ _ (by rintro rfl; exact hp rfl), World.cell?_setCell_other _ _ _ _ (by rintro rfl; exact hp rfl)]; exact hv
      refine hK _ _ ⟨o _ _ (Ne.symm hbP) a0, o _ _ (Ne.symm hbP) a1, o _ _ (Ne.symm hb0) q0, o _ _ (Ne.symm hb1) q1⟩ ?_
      clear hK K o
      (try simp only [Act.put, List.setIfInBounds_toArray, List.set_cons_zero, List.set_cons_succ])
      repeat (first | (refine seq_read rfl (by rfl) _ (fun w' hS => by (try dsimp only at hS); go_simp; (try with_reducible rfl)) ?_; (try simp only [Act.put, List.setIfInBounds_toArray, List.set_cons_zero, List.set_cons_succ])) | (refine seq_skip rfl (by rfl) ?_; (try simp only [Act.put, List.setIfInBounds_toArray, List.set_cons_zero, List.set_cons_succ])))
      apply seq_end
      first | show Exit.inBlock _ _ Exit.normal _ _ | show Exit.then _ _ Exit.normal _ _ | skip
      have hB9 := (hB3.setCell (p := ⟨P, 0, none⟩) (Nat.le_of_lt hPB) (.int .i64 (-x))).setCell (p := ⟨P, 1, none⟩) (Nat.le_of_lt hPB) (.int .i64 y)
      go_wp2_with fail
      exact bodyPost_ret (v := .tuple #[.agg #[.int .i64 (-x), .int .i64 y], .int .i64 0]) (by simp [results, Try.results17, go_sem, d0, d1]) rfl ⟨by rw [hR], hB9⟩
    · have hR := HNE.out hc0
      have hcb : (c != 0) = true := bne_iff_ne.2 hc0
      have hB9 := (hB2.setCell (p := ⟨P, 0, none⟩) (Nat.le_of_lt hPB) (.int .i64 0)).setCell (p := ⟨P, 1, none⟩) (Nat.le_of_lt hPB) (.int .i64 0)
      clear HIN HNE HZ
      go_wp2_with fail
      exact bodyPost_ret (v := .tuple #[.agg #[.int .i64 0, .int .i64 0], .int .i64 c]) (by simp [results, Try.results17, go_sem, d0, d1]) rfl ⟨by rw [hR], hB9⟩
  · rw [hk] at hop
    simp only [Bool.true_and] at hop
    refine wp_region_seq [(0, true), (1, true), (2, true), (3, true), (4, true), (5, false), (6, true), (7, true), (8, true), (9, true), (10, true), (11, false), (12, true), (13, false), (14, true), (15, true), (16, true), (17, true), (18, true)] (fun w' => w'.cell? ⟨B, 0, none⟩ = some (.slice h.a h.n h.cap) ∧ w'.cell? ⟨B, 1, none⟩ = some (.int .i64 h.eLo) ∧ w'.cell? ⟨B, 2, none⟩ = some (.int .i64 h.eHi) ∧ w'.cell? ⟨B, 3, none⟩ = some (.int .i64 h.images) ∧ w'.cell? ⟨B, 4, none⟩ = some (.int .i64 h.eyes) ∧ w'.cell? ⟨B, 5, none⟩ = some (.int .i64 h.hLo) ∧ w'.cell? ⟨B, 6, none⟩ = some (.int .i64 h.hHi) ∧ w'.cell? ⟨B, 7, none⟩ = some (.slice h.la h.ln h.lcap)) (by kernel_rfl) (by kernel_rfl) (fun _ _ d _ _ h => by cases d <;> exact h) ⟨c0, c1, c2, c3, c4, c5, c6, c7⟩ ?_
    have hb9 := Below.drew (Below.refl W.heap.size W)
    have c0 := cellB c0 hb9
    have c1 := cellB c1 hb9
    have c2 := cellB c2 hb9
    have c3 := cellB c3 hb9
    have c4 := cellB c4 hb9
    have c5 := cellB c5 hb9
    have c6 := cellB c6 hb9
    have c7 := cellB c7 hb9
    have d0 := cellB d0 hb9
    have d1 := cellB d1 hb9
    have f0 := (hb9.frozen (p := ⟨P, 0, none⟩) hPs).trans f0
    have f1 := (hb9.frozen (p := ⟨P, 1, none⟩) hPs).trans f1
    have HM := Lib.hid (HM.out.below hb9)
    have hPs := Nat.lt_of_lt_of_le hPs hb9.size
    have hB2 := hB2.trans (hb9.mono hB2.size)
    clear hb9
    generalize W.drew = X at *
    repeat (first | (refine seq_read rfl (by rfl) _ (fun w' hS => by (try dsimp only at hS); go_simp; (try with_reducible rfl)) ?_; (try simp only [Act.put, List.setIfInBounds_toArray, List.set_cons_zero, List.set_cons_succ])) | (refine seq_skip rfl (by rfl) ?_; (try simp only [Act.put, List.setIfInBounds_toArray, List.set_cons_zero, List.set_cons_succ])))
    refine seq_do rfl (by rfl) (fun K hK => ?_)
    go_simp
    refine (hinn.out i _).mono ?_
    rw [hk]
    rintro e w2 ⟨rfl, hb2⟩
    have c0 := cellB c0 hb2
    have c1 := cellB c1 hb2
    have c2 := cellB c2 hb2
    have c3 := cellB c3 hb2
    have c4 := cellB c4 hb2
    have c5 := cellB c5 hb2
    have c6 := cellB c6 hb2
    have c7 := cellB c7 hb2
    have d0 := cellB d0 hb2
    have d1 := cellB d1 hb2
    have f0 := (hb2.frozen (p := ⟨P, 0, none⟩) hPs).trans f0
    have f1 := (hb2.frozen (p := ⟨P, 1, none⟩) hPs).trans f1
    have HM := Lib.hid (HM.out.below hb2)
    have hPs := Nat.lt_of_lt_of_le hPs hb2.size
    have hB2 := hB2.trans (hb2.mono hB2.size)
    refine hK _ _ ⟨c0, c1, c2, c3, c4, c5, c6, c7⟩ ?_
    clear hK K hb2
    (try simp only [Act.put, List.setIfInBounds_toArray, List.set_cons_zero, List.set_cons_succ])
    repeat (first | (refine seq_read rfl (by rfl) _ (fun w' hS => by (try dsimp only at hS); go_simp; (try with_reducible rfl)) ?_; (try simp only [Act.put, List.setIfInBounds_toArray, List.set_cons_zero, List.set_cons_succ])) | (refine seq_skip rfl (by rfl) ?_; (try simp only [Act.put, List.setIfInBounds_toArray, List.set_cons_zero, List.set_cons_succ])))
    refine seq_do rfl (by rfl) (fun K hK => ?_)
    go_simp
    refine (hinn.out j _).mono ?_
    rintro e w2 ⟨rfl, hb2⟩
    have c0 := cellB c0 hb2
    have c1 := cellB c1 hb2
    have c2 := cellB c2 hb2
    have c3 := cellB c3 hb2
    have c4 := cellB c4 hb2
    have c5 := cellB c5 hb2
    have c6 := cellB c6 hb2
    have c7 := cellB c7 hb2
    have d0 := cellB d0 hb2
    have d1 := cellB d1 hb2
    have f0 := (hb2.frozen (p := ⟨P, 0, none⟩) hPs).trans f0
    have f1 := (hb2.frozen (p := ⟨P, 1, none⟩) hPs).trans f1
    have HM := Lib.hid (HM.out.below hb2)
    have hPs := Nat.lt_of_lt_of_le hPs hb2.size
    have hB2 := hB2.trans (hb2.mono hB2.size)
    refine hK _ _ ⟨c0, c1, c2, c3, c4, c5, c6, c7⟩ ?_
    clear hK K hb2
    (try simp only [Act.put, List.setIfInBounds_toArray, List.set_cons_zero, List.set_cons_succ])
    repeat (first | (refine seq_read rfl (by rfl) _ (fun w' hS => by (try dsimp only at hS); go_simp; (try with_reducible rfl)) ?_; (try simp only [Act.put, List.setIfInBounds_toArray, List.set_cons_zero, List.set_cons_succ])) | (refine seq_skip rfl (by rfl) ?_; (try simp only [Act.put, List.setIfInBounds_toArray, List.set_cons_zero, List.set_cons_succ])))
    refine seq_do rfl (by rfl) (fun K hK => ?_)
    go_simp
    refine (hop.out _ HM.out).mono ?_
    rintro e w3 ⟨hb3, v, rfl, hin⟩
    have c0 := cellB c0 hb3
    have c1 := cellB c1 hb3
    have c2 := cellB c2 hb3
    have c3 := cellB c3 hb3
    have c4 := cellB c4 hb3
    have c5 := cellB c5 hb3
    have c6 := cellB c6 hb3
    have c7 := cellB c7 hb3
    have d0 := cellB d0 hb3
    have d1 := cellB d1 hb3
    have f0 := (hb3.frozen (p := ⟨P, 0, none⟩) hPs).trans f0
    have f1 := (hb3.frozen (p := ⟨P, 1, none⟩) hPs).trans f1
    have HIN := Lib.hid hin
    clear hin
    have hPs := Nat.lt_of_lt_of_le hPs hb3.size
    have hB2 := hB2.trans (hb3.mono hB2.size)
    refine hK _ _ ⟨c0, c1, c2, c3, c4, c5, c6, c7⟩ ?_
    clear hK K hb3
    (try simp only [Act.put, List.setIfInBounds_toArray, List.set_cons_zero, List.set_cons_succ])
    repeat (first | (refine seq_read rfl (by rfl) _ (fun w' hS => by (try dsimp only at hS); go_simp; (try with_reducible rfl)) ?_; (try simp only [Act.put, List.setIfInBounds_toArray, List.set_cons_zero, List.set_cons_succ])) | (refine seq_skip rfl (by rfl) ?_; (try simp only [Act.put, List.setIfInBounds_toArray, List.set_cons_zero, List.set_cons_succ])))
    apply seq_end
    first | show Exit.inBlock _ _ Exit.normal _ _ | show Exit.then _ _ Exit.normal _ _ | skip
    by_cases hc0 : c = 0
    · subst hc0
      obtain ⟨k, m, rfl, rfl, ⟨k1, k2, k3, k4, k5⟩, n1, n2, hR⟩ := HZ.out rfl
      obtain ⟨gb, bc, gs, cs, rfl, g1, g2, g3, g4⟩ := HIN.out rfl
      obtain ⟨a, ha⟩ : ∃ a : Nat, 1 + k = a := ⟨_, rfl⟩
      obtain ⟨b, hb⟩ : ∃ b : Nat, 1 + m = b := ⟨_, rfl⟩
      rw [ha] at k1 n1 n2 hR
      rw [hb] at k2 n1 n2 hR
      have h1k : IntKind.i64.wrap (1 + (k : Int)) = (a : Int) := by rw [IntWalk.i64_in _ (by omega)]; omega
      have h1m : IntKind.i64.wrap (1 + (m : Int)) = (b : Int) := by rw [IntWalk.i64_in _ (by omega)]; omega
      have hai : (a : Int) < (refN h : Int) := by omega
      have ha0 : (0 : Int) ≤ (a : Int) := by omega
      have hbi : (b : Int) < (refN h : Int) := by omega
      have hb0 : (0 : Int) ≤ (b : Int) := by omega
      go_wp2_with fail
      have q0 := g4 b a (by omega) (by omega)
      have q1 := g4 a b (by omega) (by omega)
      have a0 := g3 b (by omega)
      have a1 := g3 a (by omega)
      have gr0 := g2 b (by omega)
      have gr1 := g2 a (by omega)
      clear g2 g3 g4 HIN HZ HNE hop hinn HM
      generalize refD h xs ls b a = x at *
      generalize refD h xs ls a b = y at *
      generalize refN h = N at *
      have hneg : IntKind.i64.wrap (-x) = -x := IntWalk.i64_in _ (by unfold NB at n1; omega)
      have hbP : P ≠ gb := by omega
      have hb0 : P ≠ gs (b) := by omega
      have hb1 : P ≠ gs (a) := by omega
      refine wp_region_seq [(0, true), (1, true), (2, true), (3, true), (4, true), (5, true), (6, true), (7, true), (8, true), (9, true), (10, true), (11, true), (12, true), (13, true), (14, true), (15, true), (16, true), (17, true), (18, true), (19, true), (20, false), (21, true)] (fun w' => w'.cell? ⟨gb, b, none⟩ = some (.slice (some ⟨gs (b), 0, none⟩) N (cs (b))) ∧ w'.cell? ⟨gb, a, none⟩ = some (.slice (some ⟨gs (a), 0, none⟩) N (cs (a))) ∧ w'.cell? ⟨gs (b), a, none⟩ = some (.int .i64 x) ∧ w'.cell? ⟨gs (a), b, none⟩ = some (.int .i64 y)) (by kernel_rfl) (by kernel_rfl) (fun _ _ d _ _ h => by cases d <;> exact h) ⟨a0, a1, q0, q1⟩ ?_
      have hb9 := Below.drew (Below.refl w3.heap.size w3)
      have d0 := cellB d0 hb9
      have d1 := cellB d1 hb9
      have a0 := cellB a0 hb9
      have a1 := cellB a1 hb9
      have q0 := cellB q0 hb9
      have q1 := cellB q1 hb9
      have f0 := (hb9.frozen (p := ⟨P, 0, none⟩) hPs).trans f0
      have f1 := (hb9.frozen (p := ⟨P, 1, none⟩) hPs).trans f1
      have hB3 := hB2.trans (hb9.mono hB2.size)
      clear hb9 hB2
      generalize w3.drew = Y at *
      repeat (first | (refine seq_read rfl (by rfl) _ (fun w' hS => by (try dsimp only at hS); go_simp; (try with_reducible rfl)) ?_; (try simp only [Act.put, List.setIfInBounds_toArray, List.set_cons_zero, List.set_cons_succ])) | (refine seq_skip rfl (by rfl) ?_; (try simp only [Act.put, List.setIfInBounds_toArray, List.set_cons_zero, List.set_cons_succ])))
      refine seq_do rfl (by rfl) (fun K hK => ?_)
      go_simp
      have o : ∀ (p : Addr) (v : Value), p.block ≠ P → Y.cell? p = some v → ((Y.setCell ⟨P, 0, none⟩ (.int .i64 (-x))).setCell ⟨P, 1, none⟩ (.int .i64 y)).cell? p = some v := fun p v hp hv => by
        rw [World.cell?_setCell_other _ _ _ _ (by rintro rfl; exact hp rfl), World.cell?_setCell_other _ _ _ _ (by rintro rfl; exact hp rfl)]; exact hv
      refine hK _ _ ⟨o _ _ (Ne.symm hbP) a0, o _ _ (Ne.symm hbP) a1, o _ _ (Ne.symm hb0) q0, o _ _ (Ne.symm hb1) q1⟩ ?_
      clear hK K o
      (try simp only [Act.put, List.setIfInBounds_toArray, List.set_cons_zero, List.set_cons_succ])
      repeat (first | (refine seq_read rfl (by rfl) _ (fun w' hS => by (try dsimp only at hS); go_simp; (try with_reducible rfl)) ?_; (try simp only [Act.put, List.setIfInBounds_toArray, List.set_cons_zero, List.set_cons_succ])) | (refine seq_skip rfl (by rfl) ?_; (try simp only [Act.put, List.setIfInBounds_toArray, List.set_cons_zero, List.set_cons_succ])))
      apply seq_end
      first | show Exit.inBlock _ _ Exit.normal _ _ | show Exit.then _ _ Exit.normal _ _ | skip
      have hB9 := (hB3.setCell (p := ⟨P, 0, none⟩) (Nat.le_of_lt hPB) (.int .i64 (-x))).setCell (p := ⟨P, 1, none⟩) (Nat.le_of_lt hPB) (.int .i64 y)
      go_wp2_with fail
      exact bodyPost_ret (v := .tuple #[.agg #[.int .i64 (-x), .int .i64 y], .int .i64 0]) (by simp [results, Try.results17, go_sem, d0, d1]) rfl ⟨by rw [hR], hB9⟩
    · have hR := HNE.out hc0
      have hcb : (c != 0) = true := bne_iff_ne.2 hc0
      have hB9 := (hB2.setCell (p := ⟨P, 0, none⟩) (Nat.le_of_lt hPB) (.int .i64 0)).setCell (p := ⟨P, 1, none⟩) (Nat.le_of_lt hPB) (.int .i64 0)
      clear HIN HNE HZ
      go_wp2_with fail
      exact bodyPost_ret (v := .tuple #[.agg #[.int .i64 0, .int .i64 0], .int .i64 c]) (by simp [results, Try.results17, go_sem, d0, d1]) rfl ⟨by rw [hR], hB9⟩
end Ey
end Go.Proofs.Ytcfjakifeihbpaa

namespace Go.Proofs.Ytcfjakifeihbpaa
namespace Ey
open Go.RowKit Go.Shelf Nb Fwn

set_option maxRecDepth 100000 in
set_option maxHeartbeats 8000000 in
theorem sureR_any (h : Wd) (xs : List (Int × Int)) (ls : List LkV) (w : World) (hm : HasW w h xs ls) (hn : xs.length ≤ 100) (hns : ls.length ≤ 40) :
    Calls Try.prog 21 #[h.val] w (Ret (replyI (sureA h xs ls)) w) := by
  obtain ⟨c, hc, hne, hz⟩ := sure_facts hm.nl
  have hop : Hid (∀ Y, HasW Y h xs ls → Calls Try.prog 47 #[h.val, .bool true] Y (OpenOut Y h xs ls c)) := fun Y hY => by rw [← hc]; exact openR_any h xs ls _ Y hY hn hns
  have HZ := Lib.hid hz
  have HNE := Lib.hid hne
  have hb0 : BoxW (w.alloc (.cells #[.slice h.a h.n h.cap, .int .i64 h.eLo, .int .i64 h.eHi, .int .i64 h.images, .int .i64 h.eyes, .int .i64 h.hLo, .int .i64 h.hHi, .slice h.la h.ln h.lcap] 29)) w.heap.size h := boxW_new w h _
  have hW0 : Below w.heap.size w (w.alloc (.cells #[.slice h.a h.n h.cap, .int .i64 h.eLo, .int .i64 h.eHi, .int .i64 h.images, .int .i64 h.eyes, .int .i64 h.hLo, .int .i64 h.hHi, .slice h.la h.ln h.lcap] 29)) := newB _ _
  have HM := Lib.hid (hm.below hW0)
  have HW0 := Lib.hid hW0
  clear hW0
  obtain ⟨c0, c1, c2, c3, c4, c5, c6, c7⟩ := hb0
  clear hc hne hz hm hn hns
  unfold Wd.val at hop ⊢
  generalize replyI (sureA h xs ls) = R at *
  go_enter Try.func21, Try.ntmps21
  go_wp2_with fail
  generalize hBw : w.heap.size = B at c0 c1 c2 c3 c4 c5 c6 c7 ⊢
  have HBw := Lib.hid hBw
  clear hBw
  generalize w.alloc (.cells #[.slice h.a h.n h.cap, .int .i64 h.eLo, .int .i64 h.eHi, .int .i64 h.images, .int .i64 h.eyes, .int .i64 h.hLo, .int .i64 h.hHi, .slice h.la h.ln h.lcap] 29) = W at *
  refine (hop.out W HM.out).mono ?_
  rintro e w1 ⟨hb1, v, rfl, hin⟩
  have c0 := cellB c0 hb1
  have c1 := cellB c1 hb1
  have c2 := cellB c2 hb1
  have c3 := cellB c3 hb1
  have c4 := cellB c4 hb1
  have c5 := cellB c5 hb1
  have c6 := cellB c6 hb1
  have c7 := cellB c7 hb1
  have HIN := Lib.hid hin
  have HB1 := Lib.hid (HW0.out.trans (hb1.mono HW0.out.size))
  clear hin hb1
  by_cases hc0 : c = 0
  · subst hc0
    obtain ⟨E, hE, hE4, ⟨n1, n2⟩, hR⟩ := HZ.out rfl
    obtain ⟨gb, bc, gs, cs, rfl, g1, g2, g3, g4⟩ := HIN.out rfl
    have G3 := Lib.hid g3
    have G4 := Lib.hid g4
    have HR := Lib.hid hR
    rw [hE] at c4
    clear g1 g2 g3 g4 HIN HZ HNE hop HM hE hR
    generalize refD h xs ls = D at *
    generalize refN h = n at *
    have hE4i : (E : Int) ≤ 4 := by omega
    have hst : Hid (∀ e, sureTo (sureB D) (e + 1) = if sureB D e then sureTo (sureB D) e + 2 ^ e else sureTo (sureB D) e) := fun e => rfl
    have hrg : Hid (∀ e, 0 ≤ sureTo (sureB D) e ∧ sureTo (sureB D) e < 2 ^ e) := fun e => sure_rng _ e
    have h00 : Hid (sureTo (sureB D) 0 = 0) := rfl
    have hsb : Hid (∀ e, sureB D e = (decide (D (1 + e) 0 < 0) || decide (D 0 (1 + e) < 0))) := fun e => rfl
    generalize sureTo (sureB D) = st at *
    generalize sureB D = sb at *
    go_wp2_with fail
    go_loopw [6, 7] (fun s m wr => ∃ e : Nat, e ≤ E ∧ m = .int .i64 e ∧ s = .int .i64 (st e) ∧ Below w1.heap.size w1 wr) (fun _ m _ => E - (intOf m).toNat)
    case atStart => exact ⟨0, by omega, rfl, by rw [h00.out], Below.refl _ _⟩
    case round =>
      obtain ⟨e, he, rfl, rfl, hB⟩ := hrel
      have c4 := cellB c4 hB
      have he0 : (0 : Int) ≤ (e : Int) := by omega
      by_cases hlt : e < E
      · have hlti : (e : Int) < (E : Int) := by omega
        have a0 := cellB (G3.out (1 + e) (by omega)) hB
        have a1 := cellB (G3.out 0 (by omega)) hB
        have q0 := cellB (G4.out (1 + e) 0 (by omega) (by omega)) hB
        have q1 := cellB (G4.out 0 (1 + e) (by omega) (by omega)) hB
        obtain ⟨m, hm⟩ : ∃ m : Nat, 1 + e = m := ⟨_, rfl⟩
        have h1e : (1 : Int) + (e : Int) = (m : Int) := by omega
        have hst2 := Lib.hid (hst.out e)
        have hsb2 := Lib.hid (hsb.out e)
        obtain ⟨r0, r1⟩ := hrg.out e
        have hp2 : (2 : Int) ^ e ≤ 16 := by
          have h16 : ∀ e : Fin 5, (2 : Int) ^ e.val ≤ 16 := by decide
          exact h16 ⟨e, by omega⟩
        have hp1 : (1 : Int) ≤ 2 ^ e := by
          have h16 : ∀ e : Fin 5, (1 : Int) ≤ 2 ^ e.val := by decide
          exact h16 ⟨e, by omega⟩
        have hpw := Lib.hid (power_any e (by omega))
        rw [hm] at a0 q0 q1 hsb2
        have hmn : m < n := by omega
        have hmi : (m : Int) < (n : Int) := by omega
        have hm0 : (0 : Int) ≤ (m : Int) := by omega
        have h0n : (0 : Int) < (n : Int) := by omega
        have h0nn : 0 < n := by omega
        generalize st e = s at *
        generalize (2 : Int) ^ e = pw at *
        generalize D m 0 = x at *
        generalize D 0 m = y at *
        have HBr := Lib.hid hB
        clear hB hm
        by_cases h1 : x < 0
        · have hst3 : Hid (st (e + 1) = s + pw) := by show _ = _; rw [hst2.out, hsb2.out]; simp [h1]
          clear hst2 hsb2
          go_wp2_with fail
          refine (hpw.out _).mono ?_
          rintro en w2 ⟨rfl, hb2⟩
          have hB2 := HBr.out.trans (hb2.mono HBr.out.size)
          clear hb2
          go_wp2_with fail
          go_roundw
          case rel => exact ⟨e + 1, by omega, by go_num, by rw [hst3.out], hB2⟩
          case measure => simp [intOf]; omega
        by_cases h2 : y < 0
        · have hst3 : Hid (st (e + 1) = s + pw) := by show _ = _; rw [hst2.out, hsb2.out]; simp [h2]
          clear hst2 hsb2
          go_wp2_with fail
          refine (hpw.out _).mono ?_
          rintro en w2 ⟨rfl, hb2⟩
          have hB2 := HBr.out.trans (hb2.mono HBr.out.size)
          clear hb2
          go_wp2_with fail
          go_roundw
          case rel => exact ⟨e + 1, by omega, by go_num, by rw [hst3.out], hB2⟩
          case measure => simp [intOf]; omega
        · have hst3 : Hid (st (e + 1) = s) := by show _ = _; rw [hst2.out, hsb2.out]; simp [h1, h2]
          have hB2 := HBr.out
          clear hst2 hsb2
          go_wp2_with fail
          go_roundw
          case rel => exact ⟨e + 1, by omega, by go_num, by rw [hst3.out], hB2⟩
          case measure => simp [intOf]; omega
      · obtain rfl : E = e := by omega
        have hB9 := HB1.out.trans (hB.mono HB1.out.size)
        generalize st E = s at *
        go_wp2_with fail
        exact bodyPost_ret (v := .tuple #[.int .i64 s, .int .i64 0]) (by simp [results, Try.results21, go_sem]) rfl ⟨by rw [HR.out], hB9⟩
  · have hR := HNE.out hc0
    have hcb : (c != 0) = true := bne_iff_ne.2 hc0
    have hB9 := HB1.out
    clear HIN HNE HZ
    go_wp2_with fail
    exact bodyPost_ret (v := .tuple #[.int .i64 0, .int .i64 c]) (by simp [results, Try.results21, go_sem]) rfl ⟨by rw [hR], hB9⟩
end Ey
end Go.Proofs.Ytcfjakifeihbpaa

namespace Go.Proofs.Ytcfjakifeihbpaa
namespace Ey
open Go.RowKit Go.Shelf Nb Fwn

set_option maxRecDepth 100000 in
set_option maxHeartbeats 8000000 in
theorem clashR_any (h : Wd) (xs : List (Int × Int)) (ls : List LkV) (w : World) (hm : HasW w h xs ls) (hn : xs.length ≤ 100) (hns : ls.length ≤ 40) :
    Calls Try.prog 23 #[h.val] w (Ret (replyI (clashA h xs ls)) w) := by
  have hwat : Hid (∀ Y, HasW Y h xs ls → Calls Try.prog 33 #[h.val] Y (Ret (.bool (validW h xs ls)) Y)) := fun Y hY => watchR_any h xs ls Y hY hn hns
  have hall : Hid (validW h xs ls = true → ∀ Y, Calls Try.prog 63 #[h.val] Y (Ret (.tuple #[.int .i64 (2 ^ ls.length - 1), .int .i64 (allS h.eyes.toNat)]) Y)) := fun hv Y => by
    have r := ro_of hv hm.nl
    have := allR_any h h.eyes.toNat Y r.w.eE r.w.e4 (by rw [← hm.nl]; exact r.w.l12)
    rw [← hm.nl] at this; exact this
  have hl12 : Hid (validW h xs ls = true → ls.length ≤ 12) := fun hv => (ro_of hv hm.nl).w.l12
  have hcan : Hid (validW h xs ls = true → ∀ Y S, HasW Y h xs ls → 0 ≤ S → S < 4096 → Calls Try.prog 64 #[h.val, .int .i64 S] Y (Ret (.bool (canW h (ls.map (travOf h xs)) ls h.eyes.toNat S (allS h.eyes.toNat))) Y)) := fun hv Y S hY h1 h2 => canR_any h xs ls S Y hY hv hn ⟨h1, h2⟩
  have hne : Hid (validW h xs ls = false → replyI (clashA h xs ls) = .tuple #[.int .i64 0, .int .i64 1]) := fun hv => by unfold clashA; rw [hv]; rfl
  have hye : Hid (validW h xs ls = true → replyI (clashA h xs ls) = .tuple #[.int .i64 (bestN (fun s => !canW h (ls.map (travOf h xs)) ls h.eyes.toNat s (allS h.eyes.toNat)) (2 ^ ls.length)).1, .int .i64 0]) := fun hv => by
    have := clash_same hv hm.nl
    unfold clashQ at this
    unfold clashA
    rw [if_pos hv, this]; rfl
  have hb0 : BoxW (w.alloc (.cells #[.slice h.a h.n h.cap, .int .i64 h.eLo, .int .i64 h.eHi, .int .i64 h.images, .int .i64 h.eyes, .int .i64 h.hLo, .int .i64 h.hHi, .slice h.la h.ln h.lcap] 29)) w.heap.size h := boxW_new w h _
  have hW0 : Below w.heap.size w (w.alloc (.cells #[.slice h.a h.n h.cap, .int .i64 h.eLo, .int .i64 h.eHi, .int .i64 h.images, .int .i64 h.eyes, .int .i64 h.hLo, .int .i64 h.hHi, .slice h.la h.ln h.lcap] 29)) := newB _ _
  have HM := Lib.hid (hm.below hW0)
  have HW0 := Lib.hid hW0
  clear hW0
  obtain ⟨c0, c1, c2, c3, c4, c5, c6, c7⟩ := hb0
  clear hm hn hns
  unfold Wd.val at hwat hall hcan ⊢
  generalize replyI (clashA h xs ls) = R at *
  generalize hcw : (fun s => canW h (ls.map (travOf h xs)) ls h.eyes.toNat s (allS h.eyes.toNat)) = cw at *
  have hcw2 : ∀ s, canW h (ls.map (travOf h xs)) ls h.eyes.toNat s (allS h.eyes.toNat) = cw s := fun s => by rw [← hcw]
  simp only [hcw2] at hcan hye
  clear hcw hcw2
  generalize allS h.eyes.toNat = HE at *
  go_enter Try.func23, Try.ntmps23
  go_wp2_with fail
  generalize hBw : w.heap.size = B at c0 c1 c2 c3 c4 c5 c6 c7 ⊢
  have HBw := Lib.hid hBw
  clear hBw
  generalize w.alloc (.cells #[.slice h.a h.n h.cap, .int .i64 h.eLo, .int .i64 h.eHi, .int .i64 h.images, .int .i64 h.eyes, .int .i64 h.hLo, .int .i64 h.hHi, .slice h.la h.ln h.lcap] 29) = W at *
  refine (hwat.out W HM.out).mono ?_
  rintro e w1 ⟨rfl, hb1⟩
  have HB1 := Lib.hid (HW0.out.trans (hb1.mono HW0.out.size))
  cases hv : validW h xs ls
  · have HR := Lib.hid (hne.out hv)
    have hB9 := HB1.out
    clear hv
    go_wp2_with fail
    exact bodyPost_ret (v := .tuple #[.int .i64 0, .int .i64 1]) (by simp [results, Try.results23, go_sem]) rfl ⟨by rw [HR.out], hB9⟩
  have HM1 := Lib.hid (HM.out.below hb1)
  have c0 := cellB c0 hb1
  have c1 := cellB c1 hb1
  have c2 := cellB c2 hb1
  have c3 := cellB c3 hb1
  have c4 := cellB c4 hb1
  have c5 := cellB c5 hb1
  have c6 := cellB c6 hb1
  have c7 := cellB c7 hb1
  have hall2 := Lib.hid (hall.out hv)
  have HR := Lib.hid (hye.out hv)
  have hn12 := hl12.out hv
  have HCAN := Lib.hid (hcan.out hv)
  obtain ⟨p1, p2, p3⟩ := pow_12 hn12
  clear hb1 hall hwat HM hne hye hl12 hcan hv
  go_wp2_with fail
  refine (hall2.out w1).mono ?_
  rintro e w2 ⟨rfl, hb2⟩
  have c0 := cellB c0 hb2
  have c1 := cellB c1 hb2
  have c2 := cellB c2 hb2
  have c3 := cellB c3 hb2
  have c4 := cellB c4 hb2
  have c5 := cellB c5 hb2
  have c6 := cellB c6 hb2
  have c7 := cellB c7 hb2
  have HB2 := Lib.hid (HB1.out.trans (hb2.mono HB1.out.size))
  have HM2 := Lib.hid (HM1.out.below hb2)
  clear HM1 HB1 hb2 hall2
  obtain ⟨N, hN⟩ : ∃ N : Nat, 2 ^ ls.length = N + 1 := ⟨2 ^ ls.length - 1, by omega⟩
  have hN1 : N ≤ 4095 := by omega
  have HP : (2 : Int) ^ ls.length - 1 = (N : Int) := by omega
  rw [HP]
  rw [hN] at HR
  have HRG : Hid (∀ k, 0 ≤ (bestN (fun s => !cw s) k).1 ∧ (bestN (fun s => !cw s) k).1 ≤ k) := fun k => bestN_rng _ k
  have HST : Hid (∀ k : Nat, bestN (fun s => !cw s) (k + 1) = if (!(bestN (fun s => !cw s) k).2 || decide (popc (k : Int) < popc (bestN (fun s => !cw s) k).1)) && !cw (k : Int) then ((k : Int), true) else bestN (fun s => !cw s) k) := fun k => rfl
  have h0 : Hid (bestN (fun s => !cw s) 0 = (0, false)) := rfl
  generalize bestN (fun s => !cw s) = bs at *
  clear p1 p2 p3 HP hN
  go_wp2_with fail
  go_loopw [6, 7, 8] (fun b f s wr => ∃ k : Nat, k ≤ N + 1 ∧ s = .int .i64 k ∧ b = .int .i64 (bs k).1 ∧ f = .bool (bs k).2 ∧ Below w2.heap.size w2 wr) (fun _ _ s _ => N + 1 - (intOf s).toNat)
  case atStart => exact ⟨0, by omega, rfl, by rw [h0.out], by rw [h0.out], Below.refl _ _⟩
  case round =>
    obtain ⟨k, hk, rfl, rfl, rfl, hB⟩ := hrel
    have hk0 : (0 : Int) ≤ (k : Int) := by omega
    obtain ⟨r0, r1⟩ := HRG.out k
    have hst := Lib.hid (HST.out k)
    have c0 := cellB c0 hB
    have c1 := cellB c1 hB
    have c2 := cellB c2 hB
    have c3 := cellB c3 hB
    have c4 := cellB c4 hB
    have c5 := cellB c5 hB
    have c6 := cellB c6 hB
    have c7 := cellB c7 hB
    have HBr := Lib.hid hB
    have HMr := Lib.hid (HM2.out.below hB)
    clear hB
    by_cases hlt : k ≤ N
    · have hlti : (k : Int) ≤ (N : Int) := by omega
      have hk4 : (k : Int) ≤ 4095 := by omega
      have hca : Hid (∀ Y, Below wr.heap.size wr Y → Calls Try.prog 64 #[.agg #[.slice h.a h.n h.cap, .int .i64 h.eLo, .int .i64 h.eHi, .int .i64 h.images, .int .i64 h.eyes, .int .i64 h.hLo, .int .i64 h.hHi, .slice h.la h.ln h.lcap], .int .i64 k] Y (Ret (.bool (cw k)) Y)) := fun Y hY => HCAN.out Y k (HMr.out.below hY) (by omega) (by omega)
      have hsz1 : Hid (∀ Y, Calls Try.prog 32 #[.int .i64 k] Y (Ret (.int .i64 (popc k)) Y)) := fun Y => sizeR_any _ (by omega) Y
      have hsz2 : Hid (∀ Y, Calls Try.prog 32 #[.int .i64 (bs k).1] Y (Ret (.int .i64 (popc (bs k).1)) Y)) := fun Y => sizeR_any _ (by omega) Y
      generalize bs k = bk at *
      obtain ⟨b, f⟩ := bk
      dsimp only at r0 r1 hst hsz2 ⊢
      generalize cw k = cb at *
      generalize popc k = pk at *
      generalize popc b = pb at *
      cases f
      · go_wp2_with fail
        refine (hca.out _ (Below.refl _ _)).mono ?_
        rintro e w3 ⟨rfl, hb3⟩
        have hB3 := HBr.out.trans (hb3.mono HBr.out.size)
        clear hb3 hca hsz1 hsz2
        cases cb
        · have HN : Hid (bs (k + 1) = ((k : Int), true)) := by show _ = _; rw [hst.out]; simp
          clear hst
          go_wp2_with fail
          go_roundw
          case rel => exact ⟨k + 1, by omega, by go_num, by rw [HN.out], by rw [HN.out], hB3⟩
          case measure => simp [intOf]; omega
        · have HN : Hid (bs (k + 1) = (b, false)) := by show _ = _; rw [hst.out]; simp
          clear hst
          go_wp2_with fail
          go_roundw
          case rel => exact ⟨k + 1, by omega, by go_num, by rw [HN.out], by rw [HN.out], hB3⟩
          case measure => simp [intOf]; omega
      · go_wp2_with fail
        refine (hsz1.out _).mono ?_
        rintro e w3 ⟨rfl, hb3⟩
        go_wp2_with fail
        refine (hsz2.out _).mono ?_
        rintro e w4 ⟨rfl, hb4⟩
        have hb34 := hb3.trans (hb4.mono hb3.size)
        have hB4 := HBr.out.trans (hb34.mono HBr.out.size)
        have c0 := cellB c0 hb34
        have c1 := cellB c1 hb34
        have c2 := cellB c2 hb34
        have c3 := cellB c3 hb34
        have c4 := cellB c4 hb34
        have c5 := cellB c5 hb34
        have c6 := cellB c6 hb34
        have c7 := cellB c7 hb34
        clear hb3 hb4
        by_cases hpl : pk < pb
        · go_wp2_with fail
          refine (hca.out _ hb34).mono ?_
          rintro e w5 ⟨rfl, hb5⟩
          have hB5 := hB4.trans (hb5.mono hB4.size)
          clear hb5 hca hsz1 hsz2 hb34 hB4
          cases cb
          · have HN : Hid (bs (k + 1) = ((k : Int), true)) := by show _ = _; rw [hst.out]; simp [hpl]
            clear hst
            go_wp2_with fail
            go_roundw
            case rel => exact ⟨k + 1, by omega, by go_num, by rw [HN.out], by rw [HN.out], hB5⟩
            case measure => simp [intOf]; omega
          · have HN : Hid (bs (k + 1) = (b, true)) := by show _ = _; rw [hst.out]; simp
            clear hst
            go_wp2_with fail
            go_roundw
            case rel => exact ⟨k + 1, by omega, by go_num, by rw [HN.out], by rw [HN.out], hB5⟩
            case measure => simp [intOf]; omega
        · have HN : Hid (bs (k + 1) = (b, true)) := by show _ = _; rw [hst.out]; simp [hpl]
          clear hst hca hsz1 hsz2 hb34
          go_wp2_with fail
          go_roundw
          case rel => exact ⟨k + 1, by omega, by go_num, by rw [HN.out], by rw [HN.out], hB4⟩
          case measure => simp [intOf]; omega
    · obtain rfl : k = N + 1 := by omega
      have hB9 := HB2.out.trans (HBr.out.mono HB2.out.size)
      have hgt : ¬ ((N + 1 : Nat) : Int) ≤ (N : Int) := by omega
      generalize bs (N + 1) = bk at *
      obtain ⟨b, f⟩ := bk
      dsimp only at HR ⊢
      go_wp2_with fail
      exact bodyPost_ret (v := .tuple #[.int .i64 b, .int .i64 0]) (by simp [results, Try.results23, go_sem]) rfl ⟨by rw [HR.out], hB9⟩
set_option maxRecDepth 100000 in
set_option maxHeartbeats 8000000 in
theorem dropR_any (h : Wd) (xs : List (Int × Int)) (ls : List LkV) (w : World) (hm : HasW w h xs ls) (hn : xs.length ≤ 100) (hns : ls.length ≤ 40) :
    Calls Try.prog 25 #[h.val] w (Ret (replyI (dropA h xs ls)) w) := by
  have hwat : Hid (∀ Y, HasW Y h xs ls → Calls Try.prog 33 #[h.val] Y (Ret (.bool (validW h xs ls)) Y)) := fun Y hY => watchR_any h xs ls Y hY hn hns
  have hall : Hid (validW h xs ls = true → ∀ Y, Calls Try.prog 63 #[h.val] Y (Ret (.tuple #[.int .i64 (2 ^ ls.length - 1), .int .i64 (allS h.eyes.toNat)]) Y)) := fun hv Y => by
    have r := ro_of hv hm.nl
    have := allR_any h h.eyes.toNat Y r.w.eE r.w.e4 (by rw [← hm.nl]; exact r.w.l12)
    rw [← hm.nl] at this; exact this
  have hl12 : Hid (validW h xs ls = true → ls.length ≤ 12) := fun hv => (ro_of hv hm.nl).w.l12
  have hcan : Hid (validW h xs ls = true → ∀ Y S, HasW Y h xs ls → 0 ≤ S → S < 4096 → Calls Try.prog 64 #[h.val, .int .i64 S] Y (Ret (.bool (canW h (ls.map (travOf h xs)) ls h.eyes.toNat S (allS h.eyes.toNat))) Y)) := fun hv Y S hY h1 h2 => canR_any h xs ls S Y hY hv hn ⟨h1, h2⟩
  have hne : Hid (validW h xs ls = false → replyI (dropA h xs ls) = .tuple #[.int .i64 0, .int .i64 1]) := fun hv => by unfold dropA; rw [hv]; rfl
  have hcz : Hid (validW h xs ls = true → canW h (ls.map (travOf h xs)) ls h.eyes.toNat 0 (allS h.eyes.toNat) = true) := fun hv => can_zero hv hm.nl _
  have hye : Hid (validW h xs ls = true → replyI (dropA h xs ls) = .tuple #[.int .i64 (bestT (fun s => canW h (ls.map (travOf h xs)) ls h.eyes.toNat (2 ^ ls.length - 1 - s) (allS h.eyes.toNat)) (2 ^ ls.length - 1) (2 ^ ls.length)), .int .i64 0]) := fun hv => by
    have := drop_same hv hm.nl
    unfold dropQ at this
    unfold dropA
    rw [if_pos hv, ← this]; rfl
  have hb0 : BoxW (w.alloc (.cells #[.slice h.a h.n h.cap, .int .i64 h.eLo, .int .i64 h.eHi, .int .i64 h.images, .int .i64 h.eyes, .int .i64 h.hLo, .int .i64 h.hHi, .slice h.la h.ln h.lcap] 29)) w.heap.size h := boxW_new w h _
  have hW0 : Below w.heap.size w (w.alloc (.cells #[.slice h.a h.n h.cap, .int .i64 h.eLo, .int .i64 h.eHi, .int .i64 h.images, .int .i64 h.eyes, .int .i64 h.hLo, .int .i64 h.hHi, .slice h.la h.ln h.lcap] 29)) := newB _ _
  have HM := Lib.hid (hm.below hW0)
  have HW0 := Lib.hid hW0
  clear hW0
  obtain ⟨c0, c1, c2, c3, c4, c5, c6, c7⟩ := hb0
  clear hm hn hns
  unfold Wd.val at hwat hall hcan ⊢
  generalize replyI (dropA h xs ls) = R at *
  generalize hcw : (fun s => canW h (ls.map (travOf h xs)) ls h.eyes.toNat s (allS h.eyes.toNat)) = cw at *
  have hcw2 : ∀ s, canW h (ls.map (travOf h xs)) ls h.eyes.toNat s (allS h.eyes.toNat) = cw s := fun s => by rw [← hcw]
  simp only [hcw2] at hcan hye hcz
  clear hcw hcw2
  generalize allS h.eyes.toNat = HE at *
  go_enter Try.func25, Try.ntmps25
  go_wp2_with fail
  generalize hBw : w.heap.size = B at c0 c1 c2 c3 c4 c5 c6 c7 ⊢
  have HBw := Lib.hid hBw
  clear hBw
  generalize w.alloc (.cells #[.slice h.a h.n h.cap, .int .i64 h.eLo, .int .i64 h.eHi, .int .i64 h.images, .int .i64 h.eyes, .int .i64 h.hLo, .int .i64 h.hHi, .slice h.la h.ln h.lcap] 29) = W at *
  refine (hwat.out W HM.out).mono ?_
  rintro e w1 ⟨rfl, hb1⟩
  have HB1 := Lib.hid (HW0.out.trans (hb1.mono HW0.out.size))
  cases hv : validW h xs ls
  · have HR := Lib.hid (hne.out hv)
    have hB9 := HB1.out
    clear hv
    go_wp2_with fail
    exact bodyPost_ret (v := .tuple #[.int .i64 0, .int .i64 1]) (by simp [results, Try.results25, go_sem]) rfl ⟨by rw [HR.out], hB9⟩
  have HM1 := Lib.hid (HM.out.below hb1)
  have c0 := cellB c0 hb1
  have c1 := cellB c1 hb1
  have c2 := cellB c2 hb1
  have c3 := cellB c3 hb1
  have c4 := cellB c4 hb1
  have c5 := cellB c5 hb1
  have c6 := cellB c6 hb1
  have c7 := cellB c7 hb1
  have hall2 := Lib.hid (hall.out hv)
  have HR := Lib.hid (hye.out hv)
  have hn12 := hl12.out hv
  have HCAN := Lib.hid (hcan.out hv)
  have hcz2 := hcz.out hv
  obtain ⟨p1, p2, p3⟩ := pow_12 hn12
  clear hb1 hall hwat HM hne hye hl12 hcan hcz hv
  go_wp2_with fail
  refine (hall2.out w1).mono ?_
  rintro e w2 ⟨rfl, hb2⟩
  have c0 := cellB c0 hb2
  have c1 := cellB c1 hb2
  have c2 := cellB c2 hb2
  have c3 := cellB c3 hb2
  have c4 := cellB c4 hb2
  have c5 := cellB c5 hb2
  have c6 := cellB c6 hb2
  have c7 := cellB c7 hb2
  have HB2 := Lib.hid (HB1.out.trans (hb2.mono HB1.out.size))
  have HM2 := Lib.hid (HM1.out.below hb2)
  clear HM1 HB1 hb2 hall2
  obtain ⟨N, hN⟩ : ∃ N : Nat, 2 ^ ls.length = N + 1 := ⟨2 ^ ls.length - 1, by omega⟩
  have hN1 : N ≤ 4095 := by omega
  have HP : (2 : Int) ^ ls.length - 1 = (N : Int) := by omega
  rw [HP]
  rw [hN] at HR
  rw [HP] at HR
  have HRG : Hid (∀ k, k ≤ N + 1 → 0 ≤ bestT (fun s => cw (N - s)) N k ∧ bestT (fun s => cw (N - s)) N k < 4096) := fun k hk => bestT_rng hn12 _ (by omega) (by show cw ((N : Int) - (N : Int)) = true; rw [show (N : Int) - (N : Int) = 0 by omega]; exact hcz2) (by omega)
  have HST : Hid (∀ k : Nat, bestT (fun s => cw (N - s)) N (k + 1) = if decide (popc (k : Int) < popc (bestT (fun s => cw (N - s)) N k)) && cw ((N : Int) - (k : Int)) then (k : Int) else bestT (fun s => cw (N - s)) N k) := fun k => rfl
  have h0 : Hid (bestT (fun s => cw (N - s)) N 0 = (N : Int)) := rfl
  generalize bestT (fun s => cw (N - s)) N = bs at *
  clear p1 p2 p3 HP hN hcz2
  go_wp2_with fail
  go_loopw [6, 7] (fun b s wr => ∃ k : Nat, k ≤ N + 1 ∧ s = .int .i64 k ∧ b = .int .i64 (bs k) ∧ Below w2.heap.size w2 wr) (fun _ s _ => N + 1 - (intOf s).toNat)
  case atStart => exact ⟨0, by omega, rfl, by rw [h0.out], Below.refl _ _⟩
  case round =>
    obtain ⟨k, hk, rfl, rfl, hB⟩ := hrel
    have hk0 : (0 : Int) ≤ (k : Int) := by omega
    obtain ⟨r0, r1⟩ := HRG.out k hk
    have hst := Lib.hid (HST.out k)
    have c0 := cellB c0 hB
    have c1 := cellB c1 hB
    have c2 := cellB c2 hB
    have c3 := cellB c3 hB
    have c4 := cellB c4 hB
    have c5 := cellB c5 hB
    have c6 := cellB c6 hB
    have c7 := cellB c7 hB
    have HBr := Lib.hid hB
    have HMr := Lib.hid (HM2.out.below hB)
    clear hB
    by_cases hlt : k ≤ N
    · have hlti : (k : Int) ≤ (N : Int) := by omega
      have hk4 : (k : Int) ≤ 4095 := by omega
      have hca : Hid (∀ Y, Below wr.heap.size wr Y → Calls Try.prog 64 #[.agg #[.slice h.a h.n h.cap, .int .i64 h.eLo, .int .i64 h.eHi, .int .i64 h.images, .int .i64 h.eyes, .int .i64 h.hLo, .int .i64 h.hHi, .slice h.la h.ln h.lcap], .int .i64 (N - k)] Y (Ret (.bool (cw (N - k))) Y)) := fun Y hY => HCAN.out Y (N - k) (HMr.out.below hY) (by omega) (by omega)
      have hsz1 : Hid (∀ Y, Calls Try.prog 32 #[.int .i64 k] Y (Ret (.int .i64 (popc k)) Y)) := fun Y => sizeR_any _ (by omega) Y
      have hsz2 : Hid (∀ Y, Calls Try.prog 32 #[.int .i64 (bs k)] Y (Ret (.int .i64 (popc (bs k))) Y)) := fun Y => sizeR_any _ (by omega) Y
      generalize bs k = b at *
      generalize cw ((N : Int) - (k : Int)) = cb at *
      generalize popc k = pk at *
      generalize popc b = pb at *
      go_wp2_with fail
      refine (hsz1.out _).mono ?_
      rintro e w3 ⟨rfl, hb3⟩
      go_wp2_with fail
      refine (hsz2.out _).mono ?_
      rintro e w4 ⟨rfl, hb4⟩
      have hb34 := hb3.trans (hb4.mono hb3.size)
      have hB4 := HBr.out.trans (hb34.mono HBr.out.size)
      have c0 := cellB c0 hb34
      have c1 := cellB c1 hb34
      have c2 := cellB c2 hb34
      have c3 := cellB c3 hb34
      have c4 := cellB c4 hb34
      have c5 := cellB c5 hb34
      have c6 := cellB c6 hb34
      have c7 := cellB c7 hb34
      clear hb3 hb4
      by_cases hpl : pk < pb
      · go_wp2_with fail
        refine (hca.out _ hb34).mono ?_
        rintro e w5 ⟨rfl, hb5⟩
        have hB5 := hB4.trans (hb5.mono hB4.size)
        clear hb5 hca hsz1 hsz2 hb34 hB4
        cases cb
        · have HN : Hid (bs (k + 1) = b) := by show _ = _; rw [hst.out]; simp
          clear hst
          go_wp2_with fail
          go_roundw
          case rel => exact ⟨k + 1, by omega, by go_num, by rw [HN.out], hB5⟩
          case measure => simp [intOf]; omega
        · have HN : Hid (bs (k + 1) = (k : Int)) := by show _ = _; rw [hst.out]; simp [hpl]
          clear hst
          go_wp2_with fail
          go_roundw
          case rel => exact ⟨k + 1, by omega, by go_num, by rw [HN.out], hB5⟩
          case measure => simp [intOf]; omega
      · have HN : Hid (bs (k + 1) = b) := by show _ = _; rw [hst.out]; simp [hpl]
        clear hst hca hsz1 hsz2 hb34
        go_wp2_with fail
        go_roundw
        case rel => exact ⟨k + 1, by omega, by go_num, by rw [HN.out], hB4⟩
        case measure => simp [intOf]; omega
    · obtain rfl : k = N + 1 := by omega
      have hB9 := HB2.out.trans (HBr.out.mono HB2.out.size)
      have hgt : ¬ ((N + 1 : Nat) : Int) ≤ (N : Int) := by omega
      generalize bs (N + 1) = b at *
      go_wp2_with fail
      exact bodyPost_ret (v := .tuple #[.int .i64 b, .int .i64 0]) (by simp [results, Try.results25, go_sem]) rfl ⟨by rw [HR.out], hB9⟩
theorem explain_facts' {h : Wd} {xs : List (Int × Int)} {ls : List LkV} (hn : ls.length = h.ln) : ∃ c, openE h xs ls true = c ∧ (c ≠ 0 → replyI (explainA h xs ls) = .tuple #[.int .i64 0, .int .i64 c]) ∧
    (c = 0 → ∃ E : Nat, validW h xs ls = true ∧ h.eyes = (E : Int) ∧ E ≤ 4 ∧ canW h (ls.map (travOf h xs)) ls h.eyes.toNat (allS ls.length) (2 ^ E - 1) = true ∧
      replyI (explainA h xs ls) = .tuple #[.int .i64 (bestT (fun s => canW h (ls.map (travOf h xs)) ls h.eyes.toNat (allS ls.length) s) (2 ^ E - 1) (2 ^ E)), .int .i64 0]) := by
  refine ⟨_, rfl, ?_⟩
  cases hv : validW h xs ls
  · rw [open_no hv]
    exact ⟨fun _ => by unfold explainA; rw [hv]; rfl, fun h => by cases h⟩
  · have V := validW_iff hv
    rw [open_ok hv, if_pos rfl]
    have r := ro_of hv hn
    have e4 := r.w.e4
    have hcr : goodB (refN h) (refD h xs ls) = canW h (ls.map (travOf h xs)) ls h.eyes.toNat (allS ls.length) (allS h.eyes.toNat) := can_ref hv hn _ _
    cases hg : goodB (refN h) (refD h xs ls)
    · rw [hg] at hcr
      refine ⟨fun _ => ?_, fun h => by cases h⟩
      unfold explainA explainR eyesN
      rw [if_pos hv, ← hcr]; rfl
    · rw [hg] at hcr
      refine ⟨fun h => absurd rfl h, fun _ => ⟨h.eyes.toNat, rfl, by have := V.ey; omega, e4, hcr.symm, ?_⟩⟩
      have := explain_same hv hn hcr.symm
      unfold explainA
      rw [if_pos hv, this]; rfl
set_option maxRecDepth 100000 in
set_option maxHeartbeats 8000000 in
theorem explainR_any (h : Wd) (xs : List (Int × Int)) (ls : List LkV) (w : World) (hm : HasW w h xs ls) (hn : xs.length ≤ 100) (hns : ls.length ≤ 40) :
    Calls Try.prog 27 #[h.val] w (Ret (replyI (explainA h xs ls)) w) := by
  obtain ⟨c, hc, hne, hz⟩ := explain_facts' hm.nl
  have hop : Hid (∀ Y, HasW Y h xs ls → Calls Try.prog 47 #[h.val, .bool true] Y (OpenOut Y h xs ls c)) := fun Y hY => by rw [← hc]; exact openR_any h xs ls _ Y hY hn hns
  have hall : Hid (∀ E : Nat, validW h xs ls = true → h.eyes = (E : Int) → ∀ Y, Calls Try.prog 63 #[h.val] Y (Ret (.tuple #[.int .i64 (allS ls.length), .int .i64 (2 ^ E - 1)]) Y)) := fun E hv hE Y => by
    have r := ro_of hv hm.nl
    have := allR_any h h.eyes.toNat Y r.w.eE r.w.e4 (by rw [← hm.nl]; exact r.w.l12)
    rw [← hm.nl] at this
    rw [show h.eyes.toNat = E by omega] at this
    exact this
  have hof : Hid (validW h xs ls = true → ∀ Y S, HasW Y h xs ls → 0 ≤ S → S < 4096 → Calls Try.prog 69 #[h.val, .int .i64 (allS ls.length), .int .i64 S] Y (fun e w' => Below Y.heap.size Y w' ∧ ∃ v : Value, e = .returned (.tuple #[v, .bool (canW h (ls.map (travOf h xs)) ls h.eyes.toNat (allS ls.length) S)]) ∧ ∃ b l c, v = .slice b l c)) := fun hv Y S hY h1 h2 => by
    have r := ro_of hv hm.nl
    refine (of_any h xs ls (allS ls.length) S Y hY hv hn (allS_rng r.w.l12) ⟨h1, h2⟩).mono ?_
    rintro e w' ⟨hb, ho⟩
    have hcr : goodB (refN h) (ofM h (ls.map (travOf h xs)) ls h.eyes.toNat h.images.toNat (allS ls.length) S) = canW h (ls.map (travOf h xs)) ls h.eyes.toNat (allS ls.length) S := can_ref hv hm.nl _ S
    refine ⟨hb, ?_⟩
    rw [← hcr]
    cases hg : goodB (refN h) (ofM h (ls.map (travOf h xs)) ls h.eyes.toNat h.images.toNat (allS ls.length) S)
    · rw [hg, if_neg (by simp)] at ho
      exact ⟨_, ho, _, _, _, rfl⟩
    · rw [hg, if_pos rfl] at ho
      obtain ⟨v, e, gb, bc, gs, cs, hvv, _⟩ := ho
      exact ⟨v, e, _, _, _, hvv⟩
  have HZ := Lib.hid hz
  have HNE := Lib.hid hne
  have hb0 : BoxW (w.alloc (.cells #[.slice h.a h.n h.cap, .int .i64 h.eLo, .int .i64 h.eHi, .int .i64 h.images, .int .i64 h.eyes, .int .i64 h.hLo, .int .i64 h.hHi, .slice h.la h.ln h.lcap] 29)) w.heap.size h := boxW_new w h _
  have hW0 : Below w.heap.size w (w.alloc (.cells #[.slice h.a h.n h.cap, .int .i64 h.eLo, .int .i64 h.eHi, .int .i64 h.images, .int .i64 h.eyes, .int .i64 h.hLo, .int .i64 h.hHi, .slice h.la h.ln h.lcap] 29)) := newB _ _
  have HM := Lib.hid (hm.below hW0)
  have HW0 := Lib.hid hW0
  clear hW0
  obtain ⟨c0, c1, c2, c3, c4, c5, c6, c7⟩ := hb0
  clear hc hne hz hm hn hns
  unfold Wd.val at hop hall hof ⊢
  generalize replyI (explainA h xs ls) = R at *
  generalize hcw : (fun s => canW h (ls.map (travOf h xs)) ls h.eyes.toNat (allS ls.length) s) = cw at *
  have hcw2 : ∀ s, canW h (ls.map (travOf h xs)) ls h.eyes.toNat (allS ls.length) s = cw s := fun s => by rw [← hcw]
  simp only [hcw2] at hof HZ
  clear hcw hcw2
  generalize allS ls.length = L at *
  go_enter Try.func27, Try.ntmps27
  go_wp2_with fail
  generalize hBw : w.heap.size = B at c0 c1 c2 c3 c4 c5 c6 c7 ⊢
  have HBw := Lib.hid hBw
  clear hBw
  generalize w.alloc (.cells #[.slice h.a h.n h.cap, .int .i64 h.eLo, .int .i64 h.eHi, .int .i64 h.images, .int .i64 h.eyes, .int .i64 h.hLo, .int .i64 h.hHi, .slice h.la h.ln h.lcap] 29) = W at *
  refine (hop.out W HM.out).mono ?_
  rintro e w1 ⟨hb1, v, rfl, hin⟩
  have c0 := cellB c0 hb1
  have c1 := cellB c1 hb1
  have c2 := cellB c2 hb1
  have c3 := cellB c3 hb1
  have c4 := cellB c4 hb1
  have c5 := cellB c5 hb1
  have c6 := cellB c6 hb1
  have c7 := cellB c7 hb1
  have HIN := Lib.hid hin
  have HB1 := Lib.hid (HW0.out.trans (hb1.mono HW0.out.size))
  have HM1 := Lib.hid (HM.out.below hb1)
  clear hin hb1 HM hop
  by_cases hc0 : c = 0
  · subst hc0
    obtain ⟨E, hv, hE, hE4, hcE, hR⟩ := HZ.out rfl
    obtain ⟨gb, bc, gs, cs, rfl, _, _, _, _⟩ := HIN.out rfl
    have hall2 := Lib.hid (hall.out E hv hE)
    have hof2 := Lib.hid (hof.out hv)
    have HE := Lib.hid hE
    clear hall hof HIN HZ HNE hv hE
    obtain ⟨p1, p2, p3⟩ := pow_12 (show E ≤ 12 by omega)
    obtain ⟨N, hN⟩ : ∃ N : Nat, 2 ^ E = N + 1 := ⟨2 ^ E - 1, by omega⟩
    have HP : (2 : Int) ^ E - 1 = (N : Int) := by omega
    have HP1 : (2 : Int) ^ E = (N : Int) + 1 := by omega
    have hN1 : N ≤ 15 := by
      have h16 : ∀ e : Fin 5, 2 ^ e.val ≤ 16 := by decide
      have := h16 ⟨E, by omega⟩
      dsimp only at this
      omega
    rw [HP] at hR hcE hall2
    rw [hN] at hR
    have hpw : Hid (∀ Y, Calls Try.prog 55 #[.int .i64 h.eyes] Y (Ret (.int .i64 ((N : Int) + 1)) Y)) := fun Y => by
      have := power_any E (by omega) Y
      rw [HP1] at this; rw [HE.out]; exact this
    have HR := Lib.hid hR
    have HRG : Hid (∀ k, k ≤ N + 1 → 0 ≤ bestT cw N k ∧ bestT cw N k < 4096) := fun k hk => bestT_rng (show E ≤ 12 by omega) _ (by omega) hcE (by omega)
    have HST : Hid (∀ k : Nat, bestT cw N (k + 1) = if decide (popc (k : Int) < popc (bestT cw N k)) && cw (k : Int) then (k : Int) else bestT cw N k) := fun k => rfl
    have h0 : Hid (bestT cw N 0 = (N : Int)) := rfl
    generalize bestT cw N = bs at *
    clear p1 p2 p3 HP HP1 hN hcE hR
    go_wp2_with fail
    refine (hall2.out w1).mono ?_
    rintro e w2 ⟨rfl, hb2⟩
    have c0 := cellB c0 hb2
    have c1 := cellB c1 hb2
    have c2 := cellB c2 hb2
    have c3 := cellB c3 hb2
    have c4 := cellB c4 hb2
    have c5 := cellB c5 hb2
    have c6 := cellB c6 hb2
    have c7 := cellB c7 hb2
    have HB2 := Lib.hid (HB1.out.trans (hb2.mono HB1.out.size))
    have HM2 := Lib.hid (HM1.out.below hb2)
    clear HM1 HB1 hb2 hall2
    go_wp2_with fail
    go_loopw [7, 8] (fun b s wr => ∃ k : Nat, k ≤ N + 1 ∧ s = .int .i64 k ∧ b = .int .i64 (bs k) ∧ Below w2.heap.size w2 wr) (fun _ s _ => N + 1 - (intOf s).toNat)
    case atStart => exact ⟨0, by omega, rfl, by rw [h0.out], Below.refl _ _⟩
    case round =>
      obtain ⟨k, hk, rfl, rfl, hB⟩ := hrel
      have hk0 : (0 : Int) ≤ (k : Int) := by omega
      obtain ⟨r0, r1⟩ := HRG.out k hk
      have hst := Lib.hid (HST.out k)
      have c0 := cellB c0 hB
      have c1 := cellB c1 hB
      have c2 := cellB c2 hB
      have c3 := cellB c3 hB
      have c4 := cellB c4 hB
      have c5 := cellB c5 hB
      have c6 := cellB c6 hB
      have c7 := cellB c7 hB
      have HBr := Lib.hid hB
      have HMr := Lib.hid (HM2.out.below hB)
      clear hB
      go_wp2_with fail
      refine (hpw.out _).mono ?_
      rintro e w3 ⟨rfl, hb3⟩
      have c0 := cellB c0 hb3
      have c1 := cellB c1 hb3
      have c2 := cellB c2 hb3
      have c3 := cellB c3 hb3
      have c4 := cellB c4 hb3
      have c5 := cellB c5 hb3
      have c6 := cellB c6 hb3
      have c7 := cellB c7 hb3
      have HB3 := Lib.hid (HBr.out.trans (hb3.mono HBr.out.size))
      have HM3 := Lib.hid (HMr.out.below hb3)
      clear hb3 HBr HMr
      by_cases hlt : k < N + 1
      · have hlti : (k : Int) < (N : Int) + 1 := by omega
        have hk4 : (k : Int) ≤ 4095 := by omega
        have hca := Lib.hid (hof2.out w3 k HM3.out (by omega) (by omega))
        have hsz1 : Hid (∀ Y, Calls Try.prog 32 #[.int .i64 k] Y (Ret (.int .i64 (popc k)) Y)) := fun Y => sizeR_any _ (by omega) Y
        have hsz2 : Hid (∀ Y, Calls Try.prog 32 #[.int .i64 (bs k)] Y (Ret (.int .i64 (popc (bs k))) Y)) := fun Y => sizeR_any _ (by omega) Y
        generalize bs k = b at *
        generalize cw (k : Int) = cb at *
        generalize popc k = pk at *
        generalize popc b = pb at *
        go_wp2_with fail
        refine hca.out.mono ?_
        rintro e w4 ⟨hb4, v4, rfl, _, _, _, rfl⟩
        go_wp2_with fail
        refine (hsz1.out _).mono ?_
        rintro e w5 ⟨rfl, hb5⟩
        go_wp2_with fail
        refine (hsz2.out _).mono ?_
        rintro e w6 ⟨rfl, hb6⟩
        have hb56 := hb5.trans (hb6.mono hb5.size)
        have hb46 := hb4.trans (hb56.mono hb4.size)
        have hB6 := HB3.out.trans (hb46.mono HB3.out.size)
        clear hb4 hb5 hb6 hb56 hb46 hca hsz1 hsz2
        by_cases hpl : pk < pb
        · cases cb
          · have HN : Hid (bs (k + 1) = b) := by show _ = _; rw [hst.out]; simp
            clear hst
            go_wp2_with fail
            go_roundw
            case rel => exact ⟨k + 1, by omega, by go_num, by rw [HN.out], hB6⟩
            case measure => simp [intOf]; omega
          · have HN : Hid (bs (k + 1) = (k : Int)) := by show _ = _; rw [hst.out]; simp [hpl]
            clear hst
            go_wp2_with fail
            go_roundw
            case rel => exact ⟨k + 1, by omega, by go_num, by rw [HN.out], hB6⟩
            case measure => simp [intOf]; omega
        · have HN : Hid (bs (k + 1) = b) := by show _ = _; rw [hst.out]; simp [hpl]
          clear hst
          go_wp2_with fail
          go_roundw
          case rel => exact ⟨k + 1, by omega, by go_num, by rw [HN.out], hB6⟩
          case measure => simp [intOf]; omega
      · obtain rfl : k = N + 1 := by omega
        have hB9 := HB2.out.trans (HB3.out.mono HB2.out.size)
        have hgt : ¬ ((N + 1 : Nat) : Int) < (N : Int) + 1 := by omega
        generalize bs (N + 1) = b at *
        go_wp2_with fail
        exact bodyPost_ret (v := .tuple #[.int .i64 b, .int .i64 0]) (by simp [results, Try.results27, go_sem]) rfl ⟨by rw [HR.out], hB9⟩
  · have hR := HNE.out hc0
    have hcb : (c != 0) = true := bne_iff_ne.2 hc0
    have hB9 := HB1.out
    clear HIN HNE HZ
    go_wp2_with fail
    exact bodyPost_ret (v := .tuple #[.int .i64 0, .int .i64 c]) (by simp [results, Try.results27, go_sem]) rfl ⟨by rw [hR], hB9⟩
end Ey
end Go.Proofs.Ytcfjakifeihbpaa

namespace Go.Proofs.Ytcfjakifeihbpaa
namespace Ey
open Go.RowKit

set_option maxRecDepth 100000 in
set_option maxHeartbeats 16000000 in
theorem habits_walk (h : Wd) (xs : List (Int × Int)) (ls : List LkV) (a b im : Int) (w : World) (hm : HasW w h xs ls) :
    Calls Try.prog 3 #[h.val, .int .i64 a, .int .i64 b, .int .i64 im] w (Ret (.bool true) w) := by
  have hX := newB w (.cells #[.slice h.a h.n h.cap, .int .i64 h.eLo, .int .i64 h.eHi, .int .i64 h.images, .int .i64 h.eyes, .int .i64 h.hLo, .int .i64 h.hHi, .slice h.la h.ln h.lcap] 29)
  obtain ⟨c0, c1, c2, c3, c4, c5, c6, c7⟩ := boxW_new w h 29
  have hfar : Hid (∀ Y, Below w.heap.size w Y → Calls Try.prog 12 #[h.val, .int .i64 12] Y (Ret (.bool (farB h xs ls 12)) Y)) := fun Y hY => far_any h xs ls 12 Y (hm.below hY)
  have hx1 : Hid (∀ Y, HasW Y h xs ls → (ls.length ≤ 40 ∧ xs.length ≤ 100) → Calls Try.prog 14 #[h.val, .int .i64 a] Y (Ret (reply (habitR h xs ls a)) Y)) := fun Y hY hl => habit_any a h xs ls Y hY
  have hx2 : Hid (∀ Y, HasW Y h xs ls → (ls.length ≤ 40 ∧ xs.length ≤ 100) → Calls Try.prog 15 #[h.val, .int .i64 a] Y (Ret (reply (habitR h xs ls a)) Y)) := fun Y hY hl => habitR_any h xs ls a Y hY hl.2 hl.1
  have hy1 : Hid (∀ Y, HasW Y h xs ls → (ls.length ≤ 40 ∧ xs.length ≤ 100) → Calls Try.prog 16 #[h.val, .int .i64 a, .int .i64 b] Y (Ret (reply (betweenR h xs ls a b)) Y)) := fun Y hY hl => between_any a b h xs ls Y hY
  have hy2 : Hid (∀ Y, HasW Y h xs ls → (ls.length ≤ 40 ∧ xs.length ≤ 100) → Calls Try.prog 17 #[h.val, .int .i64 a, .int .i64 b] Y (Ret (reply (betweenR h xs ls a b)) Y)) := fun Y hY hl => betweenR_any h xs ls a b Y hY hl.2 hl.1
  have hz1 : Hid (∀ Y, HasW Y h xs ls → (ls.length ≤ 40 ∧ xs.length ≤ 100) → Calls Try.prog 18 #[h.val, .int .i64 im] Y (Ret (reply (placeR h xs ls im)) Y)) := fun Y hY hl => place_any im h xs ls Y hY
  have hz2 : Hid (∀ Y, HasW Y h xs ls → (ls.length ≤ 40 ∧ xs.length ≤ 100) → Calls Try.prog 19 #[h.val, .int .i64 im] Y (Ret (reply (placeR h xs ls im)) Y)) := fun Y hY hl => placeRf_any h xs ls im Y hY hl.2 hl.1
  have hu1 : Hid (∀ Y, HasW Y h xs ls → (ls.length ≤ 40 ∧ xs.length ≤ 100) → Calls Try.prog 20 #[h.val] Y (Ret (replyI (sureA h xs ls)) Y)) := fun Y hY hl => sure_any h xs ls Y hY
  have hu2 : Hid (∀ Y, HasW Y h xs ls → (ls.length ≤ 40 ∧ xs.length ≤ 100) → Calls Try.prog 21 #[h.val] Y (Ret (replyI (sureA h xs ls)) Y)) := fun Y hY hl => sureR_any h xs ls Y hY hl.2 hl.1
  obtain ⟨xl, xh, xc, ex⟩ := reply_eq (habitR_sp h xs ls a)
  rw [ex] at hx1 hx2
  obtain ⟨yl, yh, yc, ey⟩ := reply_eq (betweenR_sp h xs ls a b)
  rw [ey] at hy1 hy2
  obtain ⟨zl, zh, zc, ez⟩ := reply_eq (placeR_sp h xs ls im)
  rw [ez] at hz1 hz2
  obtain ⟨us, uc, eu⟩ := replyI_eq (sureA h xs ls)
  rw [eu] at hu1 hu2
  clear ex ey ez eu
  have hms := Lib.hid (hm.below hX)
  clear hm
  unfold Wd.val at hfar hx1 hx2 hy1 hy2 hz1 hz2 hu1 hu2 ⊢
  go_enter Try.func3, Try.ntmps3
  go_wp2_with fail
  generalize hBw : w.heap.size = B at c0 c1 c2 c3 c4 c5 c6 c7 ⊢
  have HBw := Lib.hid hBw
  clear hBw
  generalize w.alloc (.cells #[.slice h.a h.n h.cap, .int .i64 h.eLo, .int .i64 h.eHi, .int .i64 h.images, .int .i64 h.eyes, .int .i64 h.hLo, .int .i64 h.hHi, .slice h.la h.ln h.lcap] 29) = W at *
  refine (hfar.out _ hX).mono ?_
  rintro e w1 ⟨rfl, hx1⟩
  have hB := hX.trans (hx1.mono hX.size)
  cases hf : farB h xs ls 12 with
  | true =>
    clear hfar
    go_wp2_with fail
    refine (awake_any _).mono ?_
    rintro e w2 ⟨rfl, hb2⟩
    have hB2 := hB.trans (hb2.mono hB.size)
    go_wp2
    go_ret
    exact ⟨rfl, hB2⟩
  | false =>
  have hle := farB_le hf
  have c0 := cellB c0 hx1
  have c1 := cellB c1 hx1
  have c2 := cellB c2 hx1
  have c3 := cellB c3 hx1
  have c4 := cellB c4 hx1
  have c5 := cellB c5 hx1
  have c6 := cellB c6 hx1
  have c7 := cellB c7 hx1
  have HM := Lib.hid (hms.out.below hx1)
  have HB := Lib.hid hB
  clear hx1 hX hB hms hf hfar
  go_wp2_with fail
  refine (hx1.out _ HM.out hle).mono ?_
  rintro e y1 ⟨rfl, hb⟩
  have c0 := cellB c0 hb
  have c1 := cellB c1 hb
  have c2 := cellB c2 hb
  have c3 := cellB c3 hb
  have c4 := cellB c4 hb
  have c5 := cellB c5 hb
  have c6 := cellB c6 hb
  have c7 := cellB c7 hb
  have HM := Lib.hid (HM.out.below hb)
  have HB := Lib.hid (HB.out.trans (hb.mono HB.out.size))
  clear hb
  obtain ⟨d1_0, _, d1_1, _⟩ := two_new y1 xl xh
  have hn := newB y1 (.cells #[.int .i64 xl, .int .i64 xh] 24)
  have c0 := cellB c0 hn
  have c1 := cellB c1 hn
  have c2 := cellB c2 hn
  have c3 := cellB c3 hn
  have c4 := cellB c4 hn
  have c5 := cellB c5 hn
  have c6 := cellB c6 hn
  have c7 := cellB c7 hn
  have HM := Lib.hid (HM.out.below hn)
  have HB := Lib.hid (HB.out.trans (hn.mono HB.out.size))
  clear hn
  go_wp2_with fail
  refine (hx2.out _ HM.out hle).mono ?_
  rintro e y2 ⟨rfl, hb⟩
  have c0 := cellB c0 hb
  have c1 := cellB c1 hb
  have c2 := cellB c2 hb
  have c3 := cellB c3 hb
  have c4 := cellB c4 hb
  have c5 := cellB c5 hb
  have c6 := cellB c6 hb
  have c7 := cellB c7 hb
  have d1_0 := cellB d1_0 hb
  have d1_1 := cellB d1_1 hb
  have HM := Lib.hid (HM.out.below hb)
  have HB := Lib.hid (HB.out.trans (hb.mono HB.out.size))
  clear hb
  obtain ⟨d2_0, _, d2_1, _⟩ := two_new y2 xl xh
  have hn := newB y2 (.cells #[.int .i64 xl, .int .i64 xh] 24)
  have c0 := cellB c0 hn
  have c1 := cellB c1 hn
  have c2 := cellB c2 hn
  have c3 := cellB c3 hn
  have c4 := cellB c4 hn
  have c5 := cellB c5 hn
  have c6 := cellB c6 hn
  have c7 := cellB c7 hn
  have d1_0 := cellB d1_0 hn
  have d1_1 := cellB d1_1 hn
  have HM := Lib.hid (HM.out.below hn)
  have HB := Lib.hid (HB.out.trans (hn.mono HB.out.size))
  clear hn
  go_wp2_with fail
  refine (hy1.out _ HM.out hle).mono ?_
  rintro e y3 ⟨rfl, hb⟩
  have c0 := cellB c0 hb
  have c1 := cellB c1 hb
  have c2 := cellB c2 hb
  have c3 := cellB c3 hb
  have c4 := cellB c4 hb
  have c5 := cellB c5 hb
  have c6 := cellB c6 hb
  have c7 := cellB c7 hb
  have d1_0 := cellB d1_0 hb
  have d1_1 := cellB d1_1 hb
  have d2_0 := cellB d2_0 hb
  have d2_1 := cellB d2_1 hb
  have HM := Lib.hid (HM.out.below hb)
  have HB := Lib.hid (HB.out.trans (hb.mono HB.out.size))
  clear hb
  obtain ⟨d3_0, _, d3_1, _⟩ := two_new y3 yl yh
  have hn := newB y3 (.cells #[.int .i64 yl, .int .i64 yh] 24)
  have c0 := cellB c0 hn
  have c1 := cellB c1 hn
  have c2 := cellB c2 hn
  have c3 := cellB c3 hn
  have c4 := cellB c4 hn
  have c5 := cellB c5 hn
  have c6 := cellB c6 hn
  have c7 := cellB c7 hn
  have d1_0 := cellB d1_0 hn
  have d1_1 := cellB d1_1 hn
  have d2_0 := cellB d2_0 hn
  have d2_1 := cellB d2_1 hn
  have HM := Lib.hid (HM.out.below hn)
  have HB := Lib.hid (HB.out.trans (hn.mono HB.out.size))
  clear hn
  go_wp2_with fail
  refine (hy2.out _ HM.out hle).mono ?_
  rintro e y4 ⟨rfl, hb⟩
  have c0 := cellB c0 hb
  have c1 := cellB c1 hb
  have c2 := cellB c2 hb
  have c3 := cellB c3 hb
  have c4 := cellB c4 hb
  have c5 := cellB c5 hb
  have c6 := cellB c6 hb
  have c7 := cellB c7 hb
  have d1_0 := cellB d1_0 hb
  have d1_1 := cellB d1_1 hb
  have d2_0 := cellB d2_0 hb
  have d2_1 := cellB d2_1 hb
  have d3_0 := cellB d3_0 hb
  have d3_1 := cellB d3_1 hb
  have HM := Lib.hid (HM.out.below hb)
  have HB := Lib.hid (HB.out.trans (hb.mono HB.out.size))
  clear hb
  obtain ⟨d4_0, _, d4_1, _⟩ := two_new y4 yl yh
  have hn := newB y4 (.cells #[.int .i64 yl, .int .i64 yh] 24)
  have c0 := cellB c0 hn
  have c1 := cellB c1 hn
  have c2 := cellB c2 hn
  have c3 := cellB c3 hn
  have c4 := cellB c4 hn
  have c5 := cellB c5 hn
  have c6 := cellB c6 hn
  have c7 := cellB c7 hn
  have d1_0 := cellB d1_0 hn
  have d1_1 := cellB d1_1 hn
  have d2_0 := cellB d2_0 hn
  have d2_1 := cellB d2_1 hn
  have d3_0 := cellB d3_0 hn
  have d3_1 := cellB d3_1 hn
  have HM := Lib.hid (HM.out.below hn)
  have HB := Lib.hid (HB.out.trans (hn.mono HB.out.size))
  clear hn
  go_wp2_with fail
  refine (hz1.out _ HM.out hle).mono ?_
  rintro e y5 ⟨rfl, hb⟩
  have c0 := cellB c0 hb
  have c1 := cellB c1 hb
  have c2 := cellB c2 hb
  have c3 := cellB c3 hb
  have c4 := cellB c4 hb
  have c5 := cellB c5 hb
  have c6 := cellB c6 hb
  have c7 := cellB c7 hb
  have d1_0 := cellB d1_0 hb
  have d1_1 := cellB d1_1 hb
  have d2_0 := cellB d2_0 hb
  have d2_1 := cellB d2_1 hb
  have d3_0 := cellB d3_0 hb
  have d3_1 := cellB d3_1 hb
  have d4_0 := cellB d4_0 hb
  have d4_1 := cellB d4_1 hb
  have HM := Lib.hid (HM.out.below hb)
  have HB := Lib.hid (HB.out.trans (hb.mono HB.out.size))
  clear hb
  obtain ⟨d5_0, _, d5_1, _⟩ := two_new y5 zl zh
  have hn := newB y5 (.cells #[.int .i64 zl, .int .i64 zh] 24)
  have c0 := cellB c0 hn
  have c1 := cellB c1 hn
  have c2 := cellB c2 hn
  have c3 := cellB c3 hn
  have c4 := cellB c4 hn
  have c5 := cellB c5 hn
  have c6 := cellB c6 hn
  have c7 := cellB c7 hn
  have d1_0 := cellB d1_0 hn
  have d1_1 := cellB d1_1 hn
  have d2_0 := cellB d2_0 hn
  have d2_1 := cellB d2_1 hn
  have d3_0 := cellB d3_0 hn
  have d3_1 := cellB d3_1 hn
  have d4_0 := cellB d4_0 hn
  have d4_1 := cellB d4_1 hn
  have HM := Lib.hid (HM.out.below hn)
  have HB := Lib.hid (HB.out.trans (hn.mono HB.out.size))
  clear hn
  go_wp2_with fail
  refine (hz2.out _ HM.out hle).mono ?_
  rintro e y6 ⟨rfl, hb⟩
  have c0 := cellB c0 hb
  have c1 := cellB c1 hb
  have c2 := cellB c2 hb
  have c3 := cellB c3 hb
  have c4 := cellB c4 hb
  have c5 := cellB c5 hb
  have c6 := cellB c6 hb
  have c7 := cellB c7 hb
  have d1_0 := cellB d1_0 hb
  have d1_1 := cellB d1_1 hb
  have d2_0 := cellB d2_0 hb
  have d2_1 := cellB d2_1 hb
  have d3_0 := cellB d3_0 hb
  have d3_1 := cellB d3_1 hb
  have d4_0 := cellB d4_0 hb
  have d4_1 := cellB d4_1 hb
  have d5_0 := cellB d5_0 hb
  have d5_1 := cellB d5_1 hb
  have HM := Lib.hid (HM.out.below hb)
  have HB := Lib.hid (HB.out.trans (hb.mono HB.out.size))
  clear hb
  obtain ⟨d6_0, _, d6_1, _⟩ := two_new y6 zl zh
  have hn := newB y6 (.cells #[.int .i64 zl, .int .i64 zh] 24)
  have c0 := cellB c0 hn
  have c1 := cellB c1 hn
  have c2 := cellB c2 hn
  have c3 := cellB c3 hn
  have c4 := cellB c4 hn
  have c5 := cellB c5 hn
  have c6 := cellB c6 hn
  have c7 := cellB c7 hn
  have d1_0 := cellB d1_0 hn
  have d1_1 := cellB d1_1 hn
  have d2_0 := cellB d2_0 hn
  have d2_1 := cellB d2_1 hn
  have d3_0 := cellB d3_0 hn
  have d3_1 := cellB d3_1 hn
  have d4_0 := cellB d4_0 hn
  have d4_1 := cellB d4_1 hn
  have d5_0 := cellB d5_0 hn
  have d5_1 := cellB d5_1 hn
  have HM := Lib.hid (HM.out.below hn)
  have HB := Lib.hid (HB.out.trans (hn.mono HB.out.size))
  clear hn
  go_wp2_with fail
  refine (hu1.out _ HM.out hle).mono ?_
  rintro e y7 ⟨rfl, hb⟩
  have c0 := cellB c0 hb
  have c1 := cellB c1 hb
  have c2 := cellB c2 hb
  have c3 := cellB c3 hb
  have c4 := cellB c4 hb
  have c5 := cellB c5 hb
  have c6 := cellB c6 hb
  have c7 := cellB c7 hb
  have d1_0 := cellB d1_0 hb
  have d1_1 := cellB d1_1 hb
  have d2_0 := cellB d2_0 hb
  have d2_1 := cellB d2_1 hb
  have d3_0 := cellB d3_0 hb
  have d3_1 := cellB d3_1 hb
  have d4_0 := cellB d4_0 hb
  have d4_1 := cellB d4_1 hb
  have d5_0 := cellB d5_0 hb
  have d5_1 := cellB d5_1 hb
  have d6_0 := cellB d6_0 hb
  have d6_1 := cellB d6_1 hb
  have HM := Lib.hid (HM.out.below hb)
  have HB := Lib.hid (HB.out.trans (hb.mono HB.out.size))
  clear hb
  go_wp2_with fail
  refine (hu2.out _ HM.out hle).mono ?_
  rintro e y8 ⟨rfl, hb⟩
  have c0 := cellB c0 hb
  have c1 := cellB c1 hb
  have c2 := cellB c2 hb
  have c3 := cellB c3 hb
  have c4 := cellB c4 hb
  have c5 := cellB c5 hb
  have c6 := cellB c6 hb
  have c7 := cellB c7 hb
  have d1_0 := cellB d1_0 hb
  have d1_1 := cellB d1_1 hb
  have d2_0 := cellB d2_0 hb
  have d2_1 := cellB d2_1 hb
  have d3_0 := cellB d3_0 hb
  have d3_1 := cellB d3_1 hb
  have d4_0 := cellB d4_0 hb
  have d4_1 := cellB d4_1 hb
  have d5_0 := cellB d5_0 hb
  have d5_1 := cellB d5_1 hb
  have d6_0 := cellB d6_0 hb
  have d6_1 := cellB d6_1 hb
  have HM := Lib.hid (HM.out.below hb)
  have HB := Lib.hid (HB.out.trans (hb.mono HB.out.size))
  clear hb
  go_wp2_with fail
  refine (awake_any _).mono ?_
  rintro e w2 ⟨rfl, hb2⟩
  have hB2 := HB.out.trans (hb2.mono HB.out.size)
  go_wp2
  go_ret
  exact ⟨rfl, hB2⟩
set_option maxRecDepth 100000 in
set_option maxHeartbeats 16000000 in
theorem sets_walk (h : Wd) (xs : List (Int × Int)) (ls : List LkV) (w : World) (hm : HasW w h xs ls) :
    Calls Try.prog 4 #[h.val] w (Ret (.bool true) w) := by
  have hX := newB w (.cells #[.slice h.a h.n h.cap, .int .i64 h.eLo, .int .i64 h.eHi, .int .i64 h.images, .int .i64 h.eyes, .int .i64 h.hLo, .int .i64 h.hHi, .slice h.la h.ln h.lcap] 29)
  obtain ⟨c0, c1, c2, c3, c4, c5, c6, c7⟩ := boxW_new w h 29
  have hfar : Hid (∀ Y, Below w.heap.size w Y → Calls Try.prog 12 #[h.val, .int .i64 7] Y (Ret (.bool (farB h xs ls 7)) Y)) := fun Y hY => far_any h xs ls 7 Y (hm.below hY)
  have hx1 : Hid (∀ Y, HasW Y h xs ls → (ls.length ≤ 40 ∧ xs.length ≤ 100) → Calls Try.prog 22 #[h.val] Y (Ret (replyI (clashA h xs ls)) Y)) := fun Y hY hl => clash_any h xs ls Y hY
  have hx2 : Hid (∀ Y, HasW Y h xs ls → (ls.length ≤ 40 ∧ xs.length ≤ 100) → Calls Try.prog 23 #[h.val] Y (Ret (replyI (clashA h xs ls)) Y)) := fun Y hY hl => clashR_any h xs ls Y hY hl.2 hl.1
  have hy1 : Hid (∀ Y, HasW Y h xs ls → (ls.length ≤ 40 ∧ xs.length ≤ 100) → Calls Try.prog 24 #[h.val] Y (Ret (replyI (dropA h xs ls)) Y)) := fun Y hY hl => drop_any h xs ls Y hY
  have hy2 : Hid (∀ Y, HasW Y h xs ls → (ls.length ≤ 40 ∧ xs.length ≤ 100) → Calls Try.prog 25 #[h.val] Y (Ret (replyI (dropA h xs ls)) Y)) := fun Y hY hl => dropR_any h xs ls Y hY hl.2 hl.1
  have hz1 : Hid (∀ Y, HasW Y h xs ls → (ls.length ≤ 40 ∧ xs.length ≤ 100) → Calls Try.prog 26 #[h.val] Y (Ret (replyI (explainA h xs ls)) Y)) := fun Y hY hl => explain_any h xs ls Y hY
  have hz2 : Hid (∀ Y, HasW Y h xs ls → (ls.length ≤ 40 ∧ xs.length ≤ 100) → Calls Try.prog 27 #[h.val] Y (Ret (replyI (explainA h xs ls)) Y)) := fun Y hY hl => explainR_any h xs ls Y hY hl.2 hl.1
  obtain ⟨xv, xc, ex⟩ := replyI_eq (clashA h xs ls)
  rw [ex] at hx1 hx2
  obtain ⟨yv, yc, ey⟩ := replyI_eq (dropA h xs ls)
  rw [ey] at hy1 hy2
  obtain ⟨zv, zc, ez⟩ := replyI_eq (explainA h xs ls)
  rw [ez] at hz1 hz2
  clear ex ey ez
  have hms := Lib.hid (hm.below hX)
  clear hm
  unfold Wd.val at hfar hx1 hx2 hy1 hy2 hz1 hz2 ⊢
  go_enter Try.func4, Try.ntmps4
  go_wp2_with fail
  generalize hBw : w.heap.size = B at c0 c1 c2 c3 c4 c5 c6 c7 ⊢
  have HBw := Lib.hid hBw
  clear hBw
  generalize w.alloc (.cells #[.slice h.a h.n h.cap, .int .i64 h.eLo, .int .i64 h.eHi, .int .i64 h.images, .int .i64 h.eyes, .int .i64 h.hLo, .int .i64 h.hHi, .slice h.la h.ln h.lcap] 29) = W at *
  refine (hfar.out _ hX).mono ?_
  rintro e w1 ⟨rfl, hx1⟩
  have hB := hX.trans (hx1.mono hX.size)
  cases hf : farB h xs ls 7 with
  | true =>
    clear hfar
    go_wp2_with fail
    refine (awake_any _).mono ?_
    rintro e w2 ⟨rfl, hb2⟩
    have hB2 := hB.trans (hb2.mono hB.size)
    go_wp2
    go_ret
    exact ⟨rfl, hB2⟩
  | false =>
  have hle := farB_le hf
  have c0 := cellB c0 hx1
  have c1 := cellB c1 hx1
  have c2 := cellB c2 hx1
  have c3 := cellB c3 hx1
  have c4 := cellB c4 hx1
  have c5 := cellB c5 hx1
  have c6 := cellB c6 hx1
  have c7 := cellB c7 hx1
  have HM := Lib.hid (hms.out.below hx1)
  have HB := Lib.hid hB
  clear hx1 hX hB hms hf hfar
  go_wp2_with fail
  refine (hx1.out _ HM.out hle).mono ?_
  rintro e y1 ⟨rfl, hb⟩
  have c0 := cellB c0 hb
  have c1 := cellB c1 hb
  have c2 := cellB c2 hb
  have c3 := cellB c3 hb
  have c4 := cellB c4 hb
  have c5 := cellB c5 hb
  have c6 := cellB c6 hb
  have c7 := cellB c7 hb
  have HM := Lib.hid (HM.out.below hb)
  have HB := Lib.hid (HB.out.trans (hb.mono HB.out.size))
  clear hb
  go_wp2_with fail
  refine (hx2.out _ HM.out hle).mono ?_
  rintro e y2 ⟨rfl, hb⟩
  have c0 := cellB c0 hb
  have c1 := cellB c1 hb
  have c2 := cellB c2 hb
  have c3 := cellB c3 hb
  have c4 := cellB c4 hb
  have c5 := cellB c5 hb
  have c6 := cellB c6 hb
  have c7 := cellB c7 hb
  have HM := Lib.hid (HM.out.below hb)
  have HB := Lib.hid (HB.out.trans (hb.mono HB.out.size))
  clear hb
  go_wp2_with fail
  refine (hy1.out _ HM.out hle).mono ?_
  rintro e y3 ⟨rfl, hb⟩
  have c0 := cellB c0 hb
  have c1 := cellB c1 hb
  have c2 := cellB c2 hb
  have c3 := cellB c3 hb
  have c4 := cellB c4 hb
  have c5 := cellB c5 hb
  have c6 := cellB c6 hb
  have c7 := cellB c7 hb
  have HM := Lib.hid (HM.out.below hb)
  have HB := Lib.hid (HB.out.trans (hb.mono HB.out.size))
  clear hb
  go_wp2_with fail
  refine (hy2.out _ HM.out hle).mono ?_
  rintro e y4 ⟨rfl, hb⟩
  have c0 := cellB c0 hb
  have c1 := cellB c1 hb
  have c2 := cellB c2 hb
  have c3 := cellB c3 hb
  have c4 := cellB c4 hb
  have c5 := cellB c5 hb
  have c6 := cellB c6 hb
  have c7 := cellB c7 hb
  have HM := Lib.hid (HM.out.below hb)
  have HB := Lib.hid (HB.out.trans (hb.mono HB.out.size))
  clear hb
  go_wp2_with fail
  refine (hz1.out _ HM.out hle).mono ?_
  rintro e y5 ⟨rfl, hb⟩
  have c0 := cellB c0 hb
  have c1 := cellB c1 hb
  have c2 := cellB c2 hb
  have c3 := cellB c3 hb
  have c4 := cellB c4 hb
  have c5 := cellB c5 hb
  have c6 := cellB c6 hb
  have c7 := cellB c7 hb
  have HM := Lib.hid (HM.out.below hb)
  have HB := Lib.hid (HB.out.trans (hb.mono HB.out.size))
  clear hb
  go_wp2_with fail
  refine (hz2.out _ HM.out hle).mono ?_
  rintro e y6 ⟨rfl, hb⟩
  have c0 := cellB c0 hb
  have c1 := cellB c1 hb
  have c2 := cellB c2 hb
  have c3 := cellB c3 hb
  have c4 := cellB c4 hb
  have c5 := cellB c5 hb
  have c6 := cellB c6 hb
  have c7 := cellB c7 hb
  have HM := Lib.hid (HM.out.below hb)
  have HB := Lib.hid (HB.out.trans (hb.mono HB.out.size))
  clear hb
  go_wp2_with fail
  refine (awake_any _).mono ?_
  rintro e w2 ⟨rfl, hb2⟩
  have hB2 := HB.out.trans (hb2.mono HB.out.size)
  go_wp2
  go_ret
  exact ⟨rfl, hB2⟩
end Ey
end Go.Proofs.Ytcfjakifeihbpaa
