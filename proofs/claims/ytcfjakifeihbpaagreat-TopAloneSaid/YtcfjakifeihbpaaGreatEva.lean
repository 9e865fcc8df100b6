/- Eye: whether a watch is valid. -/
import Derived.Test.YtcfjakifeihbpaaGreatEov
namespace Go.Proofs.YtcfjakifeihbpaaGreat
namespace Ey
open Go.RowKit

/-- A look: measurer, image, reading. -/
abbrev LkV := Int × Int × Int
def LooksIn (X : World) (a : Option Addr) (ls : List LkV) : Prop :=
  ls = [] ∨ ∃ b o, a = some ⟨b, o, none⟩ ∧ b < X.heap.size ∧ ∀ k, k < ls.length → X.cell? ⟨b, o + k * 3, none⟩ = some (.int .i64 (ls.getD k (0, 0, 0)).1) ∧ X.cell? ⟨b, o + k * 3 + 1, none⟩ = some (.int .i64 (ls.getD k (0, 0, 0)).2.1) ∧
    X.cell? ⟨b, o + k * 3 + 2, none⟩ = some (.int .i64 (ls.getD k (0, 0, 0)).2.2) ∧ (ls.getD k (0, 0, 0)).2.2 ≤ 9223372036854775807
theorem LooksIn.below {X X' : World} {a : Option Addr} {ls : List LkV} (h : LooksIn X a ls) (hb : Below X.heap.size X X') : LooksIn X' a ls := by
  rcases h with h | ⟨b, o, h1, h2, h3⟩
  · exact .inl h
  · exact .inr ⟨b, o, h1, Nat.lt_of_lt_of_le h2 hb.size, fun k hk => by
      obtain ⟨d0, d1, d2, d3⟩ := h3 k hk
      exact ⟨cellB d0 hb, cellB d1 hb, cellB d2 hb, d3⟩⟩
structure HasW (X : World) (h : Wd) (xs : List (Int × Int)) (ls : List LkV) : Prop where
  sp : Spans X h.a xs
  lk : LooksIn X h.la ls
  nx : xs.length = h.n
  nl : ls.length = h.ln
  lx : xs.length ≤ 9223372036854775807
  ll : ls.length ≤ 9223372036854775807
theorem HasW.below {X X' : World} {h : Wd} {xs : List (Int × Int)} {ls : List LkV} (k : HasW X h xs ls) (hb : Below X.heap.size X X') : HasW X' h xs ls :=
  ⟨k.sp.below (Nat.le_refl _) hb, k.lk.below hb, k.nx, k.nl, k.lx, k.ll⟩
def lookB (h : Wd) (xs : List (Int × Int)) (l : LkV) : Bool := isImg h.eyes l.1 && isImg h.images l.2.1 && saysB xs h.eLo h.eHi l.2.2
def validW (h : Wd) (xs : List (Int × Int)) (ls : List LkV) : Bool :=
  saysB xs h.eLo h.eHi 0 && holdB 1 6 h.images h.images && holdB 1 4 h.eyes h.eyes && holdB (-200) 200 h.hLo h.hHi && holdB h.hLo h.hHi 0 0 && decide (ls.length ≤ 12) && ls.all (lookB h xs)
structure BoxW (X : World) (B : Nat) (h : Wd) : Prop where
  c0 : X.cell? ⟨B, 0, none⟩ = some (.slice h.a h.n h.cap)
  c1 : X.cell? ⟨B, 1, none⟩ = some (.int .i64 h.eLo)
  c2 : X.cell? ⟨B, 2, none⟩ = some (.int .i64 h.eHi)
  c3 : X.cell? ⟨B, 3, none⟩ = some (.int .i64 h.images)
  c4 : X.cell? ⟨B, 4, none⟩ = some (.int .i64 h.eyes)
  c5 : X.cell? ⟨B, 5, none⟩ = some (.int .i64 h.hLo)
  c6 : X.cell? ⟨B, 6, none⟩ = some (.int .i64 h.hHi)
  c7 : X.cell? ⟨B, 7, none⟩ = some (.slice h.la h.ln h.lcap)
theorem BoxW.grown {X X' : World} {B : Nat} {h : Wd} (k : BoxW X B h) (hb : Below X.heap.size X X') : BoxW X' B h :=
  ⟨cellB k.c0 hb, cellB k.c1 hb, cellB k.c2 hb, cellB k.c3 hb, cellB k.c4 hb, cellB k.c5 hb, cellB k.c6 hb, cellB k.c7 hb⟩
theorem boxW_new (X : World) (h : Wd) (t : TypeId) : BoxW (X.alloc (.cells #[.slice h.a h.n h.cap, .int .i64 h.eLo, .int .i64 h.eHi, .int .i64 h.images, .int .i64 h.eyes, .int .i64 h.hLo, .int .i64 h.hHi, .slice h.la h.ln h.lcap] t)) X.heap.size h :=
  ⟨by simp [go_sem], by simp [go_sem], by simp [go_sem], by simp [go_sem], by simp [go_sem], by simp [go_sem], by simp [go_sem], by simp [go_sem]⟩
set_option maxRecDepth 100000 in
set_option maxHeartbeats 8000000 in
theorem valid_any (h : Wd) (xs : List (Int × Int)) (ls : List LkV) (w : World) (hm : HasW w h xs ls) : Calls Tryz.prog 63 #[h.val] w (Ret (.bool (validW h xs ls)) w) := by
  have hBX := boxW_new w h 29
  have hZ := newB w (.cells #[.slice h.a h.n h.cap, .int .i64 h.eLo, .int .i64 h.eHi, .int .i64 h.images, .int .i64 h.eyes, .int .i64 h.hLo, .int .i64 h.hHi, .slice h.la h.ln h.lcap] 29)
  have hV : Hid (∀ r, validW h xs ls = r ↔ validW h xs ls = r) := fun _ => Iff.rfl
  have HM := Lib.hid hm
  clear hm
  generalize hR : validW h xs ls = R
  have HR := Lib.hid hR
  clear hR hV
  unfold Wd.val
  obtain ⟨c0, c1, c2, c3, c4, c5, c6, c7⟩ := hBX
  go_enter Tryz.func63, Tryz.ntmps63
  have HB : Hid (∀ Y, Below ((((w.alloc (.cells #[.slice h.a h.n h.cap, .int .i64 h.eLo, .int .i64 h.eHi, .int .i64 h.images, .int .i64 h.eyes, .int .i64 h.hLo, .int .i64 h.hHi, .slice h.la h.ln h.lcap] 29)).alloc (.cells #[.int .i64 1, .int .i64 6] 24)).alloc (.cells #[.int .i64 1, .int .i64 4] 24)).alloc (.cells #[.int .i64 (-200), .int .i64 200] 24)).heap.size ((((w.alloc (.cells #[.slice h.a h.n h.cap, .int .i64 h.eLo, .int .i64 h.eHi, .int .i64 h.images, .int .i64 h.eyes, .int .i64 h.hLo, .int .i64 h.hHi, .slice h.la h.ln h.lcap] 29)).alloc (.cells #[.int .i64 1, .int .i64 6] 24)).alloc (.cells #[.int .i64 1, .int .i64 4] 24)).alloc (.cells #[.int .i64 (-200), .int .i64 200] 24)) Y → BoxW Y w.heap.size h ∧ Y.cell? ⟨w.heap.size + 1, 0, none⟩ = some (.int .i64 1) ∧ Y.cell? ⟨w.heap.size + 1, 1, none⟩ = some (.int .i64 6) ∧ Y.cell? ⟨w.heap.size + 1 + 1, 0, none⟩ = some (.int .i64 1) ∧ Y.cell? ⟨w.heap.size + 1 + 1, 1, none⟩ = some (.int .i64 4) ∧
      Y.cell? ⟨w.heap.size + 1 + 1 + 1, 0, none⟩ = some (.int .i64 (-200)) ∧ Y.cell? ⟨w.heap.size + 1 + 1 + 1, 1, none⟩ = some (.int .i64 200) ∧ HasW Y h xs ls) := fun Y hY => by
    have hB : Below (w.alloc (.cells #[.slice h.a h.n h.cap, .int .i64 h.eLo, .int .i64 h.eHi, .int .i64 h.images, .int .i64 h.eyes, .int .i64 h.hLo, .int .i64 h.hHi, .slice h.la h.ln h.lcap] 29)).heap.size (w.alloc (.cells #[.slice h.a h.n h.cap, .int .i64 h.eLo, .int .i64 h.eHi, .int .i64 h.images, .int .i64 h.eyes, .int .i64 h.hLo, .int .i64 h.hHi, .slice h.la h.ln h.lcap] 29)) ((((w.alloc (.cells #[.slice h.a h.n h.cap, .int .i64 h.eLo, .int .i64 h.eHi, .int .i64 h.images, .int .i64 h.eyes, .int .i64 h.hLo, .int .i64 h.hHi, .slice h.la h.ln h.lcap] 29)).alloc (.cells #[.int .i64 1, .int .i64 6] 24)).alloc (.cells #[.int .i64 1, .int .i64 4] 24)).alloc (.cells #[.int .i64 (-200), .int .i64 200] 24)) := BA (BA (BA (Below.refl _ _) _) _) _
    refine ⟨(BoxW.grown ⟨c0, c1, c2, c3, c4, c5, c6, c7⟩ hB).grown hY, cellB ?_ hY, cellB ?_ hY, cellB ?_ hY, cellB ?_ hY, cellB ?_ hY, cellB ?_ hY, HM.out.below (BT (BT hZ hB) hY)⟩ <;> simp [go_sem]
  have hW0 : Below w.heap.size w ((((w.alloc (.cells #[.slice h.a h.n h.cap, .int .i64 h.eLo, .int .i64 h.eHi, .int .i64 h.images, .int .i64 h.eyes, .int .i64 h.hLo, .int .i64 h.hHi, .slice h.la h.ln h.lcap] 29)).alloc (.cells #[.int .i64 1, .int .i64 6] 24)).alloc (.cells #[.int .i64 1, .int .i64 4] 24)).alloc (.cells #[.int .i64 (-200), .int .i64 200] 24)) := BA (BA (BA hZ _) _) _
  clear c0 c1 c2 c3 c4 c5 c6 c7 hZ
  obtain ⟨⟨c0, c1, c2, c3, c4, c5, c6, c7⟩, a0, a1, b0, b1, e0, e1, hw⟩ := HB.out _ (Below.refl _ _)
  go_wp2_with fail
  generalize (((w.alloc (.cells #[.slice h.a h.n h.cap, .int .i64 h.eLo, .int .i64 h.eHi, .int .i64 h.images, .int .i64 h.eyes, .int .i64 h.hLo, .int .i64 h.hHi, .slice h.la h.ln h.lcap] 29)).alloc (.cells #[.int .i64 1, .int .i64 6] 24)).alloc (.cells #[.int .i64 1, .int .i64 4] 24)).alloc (.cells #[.int .i64 (-200), .int .i64 200] 24) = W0 at HB hW0 c0 c1 c2 c3 c4 c5 c6 c7 a0 a1 b0 b1 e0 e1 hw ⊢
  have hV : Below W0.heap.size W0 W0 := Below.refl _ _
  have hsy := says_any h.a h.cap h.eLo h.eHi 0 xs W0 hw.sp hw.lx (by omega)
  rw [hw.nx] at hsy
  refine hsy.mono ?_
  rintro e W1 ⟨rfl, hv⟩
  have hV := BT hV hv
  clear hsy c0 c1 c2 c3 c4 c5 c6 c7 a0 a1 b0 b1 e0 e1 hw hv
  obtain ⟨⟨c0, c1, c2, c3, c4, c5, c6, c7⟩, a0, a1, b0, b1, e0, e1, hw⟩ := HB.out _ hV
  cases q0 : saysB xs h.eLo h.eHi 0
  · have hRn : Hid (R = false) := by show _ = _; rw [← HR.out]; unfold validW; simp [q0]
    have hfin := BT hW0 hV
    clear HR
    go_wp2
    go_ret
    exact ⟨by rw [hRn.out]; rfl, hfin⟩
  have HQ0 := Lib.hid q0
  clear q0
  go_wp2_with fail
  refine (has_any 1 6 h.images _).mono ?_
  rintro e W2 ⟨rfl, hv⟩
  have hV := BT hV hv
  clear c0 c1 c2 c3 c4 c5 c6 c7 a0 a1 b0 b1 e0 e1 hw hv
  obtain ⟨⟨c0, c1, c2, c3, c4, c5, c6, c7⟩, a0, a1, b0, b1, e0, e1, hw⟩ := HB.out _ hV
  cases q1 : holdB 1 6 h.images h.images
  · have hRn : Hid (R = false) := by show _ = _; rw [← HR.out]; unfold validW; simp [HQ0.out, q1]
    have hfin := BT hW0 hV
    clear HR
    go_wp2
    go_ret
    exact ⟨by rw [hRn.out]; rfl, hfin⟩
  have HQ1 := Lib.hid q1
  clear q1
  go_wp2_with fail
  refine (has_any 1 4 h.eyes _).mono ?_
  rintro e W3 ⟨rfl, hv⟩
  have hV := BT hV hv
  clear c0 c1 c2 c3 c4 c5 c6 c7 a0 a1 b0 b1 e0 e1 hw hv
  obtain ⟨⟨c0, c1, c2, c3, c4, c5, c6, c7⟩, a0, a1, b0, b1, e0, e1, hw⟩ := HB.out _ hV
  cases q2 : holdB 1 4 h.eyes h.eyes
  · have hRn : Hid (R = false) := by show _ = _; rw [← HR.out]; unfold validW; simp [HQ0.out, HQ1.out, q2]
    have hfin := BT hW0 hV
    clear HR
    go_wp2
    go_ret
    exact ⟨by rw [hRn.out]; rfl, hfin⟩
  have HQ2 := Lib.hid q2
  clear q2
  go_wp2_with fail
  refine (holds_any (-200) 200 h.hLo h.hHi _).mono ?_
  rintro e W4 ⟨rfl, hv⟩
  have hV := BT hV hv
  clear c0 c1 c2 c3 c4 c5 c6 c7 a0 a1 b0 b1 e0 e1 hw hv
  obtain ⟨⟨c0, c1, c2, c3, c4, c5, c6, c7⟩, a0, a1, b0, b1, e0, e1, hw⟩ := HB.out _ hV
  cases q3 : holdB (-200) 200 h.hLo h.hHi
  · have hRn : Hid (R = false) := by show _ = _; rw [← HR.out]; unfold validW; simp [HQ0.out, HQ1.out, HQ2.out, q3]
    have hfin := BT hW0 hV
    clear HR
    go_wp2
    go_ret
    exact ⟨by rw [hRn.out]; rfl, hfin⟩
  have HQ3 := Lib.hid q3
  clear q3
  go_wp2_with fail
  refine (has_any h.hLo h.hHi 0 _).mono ?_
  rintro e W5 ⟨rfl, hv⟩
  have hV := BT hV hv
  clear c0 c1 c2 c3 c4 c5 c6 c7 a0 a1 b0 b1 e0 e1 hw hv
  obtain ⟨⟨c0, c1, c2, c3, c4, c5, c6, c7⟩, a0, a1, b0, b1, e0, e1, hw⟩ := HB.out _ hV
  cases q4 : holdB h.hLo h.hHi 0 0
  · have hRn : Hid (R = false) := by show _ = _; rw [← HR.out]; unfold validW; simp [HQ0.out, HQ1.out, HQ2.out, HQ3.out, q4]
    have hfin := BT hW0 hV
    clear HR
    go_wp2
    go_ret
    exact ⟨by rw [hRn.out]; rfl, hfin⟩
  have HQ4 := Lib.hid q4
  clear q4
  by_cases h12 : ls.length ≤ 12
  case neg =>
    have hRn : Hid (R = false) := by show _ = _; rw [← HR.out]; unfold validW; simp [h12]
    have hfin := BT hW0 hV
    have hgt : (h.ln : Int) > 12 := by rw [← hw.nl]; omega
    clear HR
    go_wp2
    go_ret
    exact ⟨by rw [hRn.out]; rfl, hfin⟩
  have hgt : ¬ (h.ln : Int) > 12 := by rw [← hw.nl]; omega
  go_upto_region 9 with fail
  clear hgt c0 c1 c2 c3 c4 c5 c6 c7 a0 a1 b0 b1 e0 e1 hw
  have h12I : h.ln ≤ 12 := by have := HM.out.nl; omega
  obtain ⟨wo, rfl⟩ : ∃ wo : World, wo = W5 := ⟨_, rfl⟩
  go_loopw [49] (fun i wr => ∃ k : Nat, k ≤ h.ln ∧ i = .int .i64 k ∧ Hid ((ls.take k).all (lookB h xs) = true) ∧ Below wo.heap.size wo wr) (fun i _ => h.ln - (intOf i).toNat)
  case atStart => exact ⟨0, by omega, rfl, rfl, Below.refl _ _⟩
  case round =>
    obtain ⟨k, hk, rfl, hall, hB⟩ := hrel
    have hk0 : (0 : Int) ≤ (k : Int) := by omega
    obtain ⟨⟨c0, c1, c2, c3, c4, c5, c6, c7⟩, a0, a1, b0, b1, e0, e1, hw⟩ := HB.out wr (BT hV hB)
    by_cases hlt : k < h.ln
    · have hkl : k < ls.length := by rw [HM.out.nl]; exact hlt
      rcases hw.lk with hnil | ⟨bt, ot, hla, hbt, hct⟩
      · exfalso; rw [hnil] at hkl; simp at hkl
      obtain ⟨d0, d1, d2, d3⟩ := hct k hkl
      have hRf : Hid (lookB h xs (ls.getD k (0, 0, 0)) = false → R = false) := fun hf => by
        rw [← HR.out]
        unfold validW
        have : ls.all (lookB h xs) = false := by
          rw [List.all_eq_false]
          exact ⟨ls[k], List.getElem_mem hkl, by have e : ls.getD k (0, 0, 0) = ls[k] := by simp [List.getD, hkl]
                                                 rw [← e, hf]; decide⟩
        rw [this, Bool.and_false]
      have hsn : Hid (lookB h xs (ls.getD k (0, 0, 0)) = true → (ls.take (k + 1)).all (lookB h xs) = true) := fun hf => by
        rw [List.take_succ_eq_append_getElem hkl, List.all_append, hall.out]
        have e : ls.getD k (0, 0, 0) = ls[k] := by simp [List.getD, hkl]
        rw [e] at hf
        simp [hf]
      rw [hla] at c7 ⊢
      have HLA := Lib.hid hla
      clear hla
      clear hct
      generalize ls.getD k (0, 0, 0) = lv at d0 d1 d2 d3 hRf hsn
      obtain ⟨ey, im, rd⟩ := lv
      dsimp only at d0 d1 d2 d3
      go_upto_region 11 with fail
      have hv := newB wr (.cells #[.int .i64 ey, .int .i64 im, .int .i64 rd] 36)
      have t0 : (wr.alloc (.cells #[.int .i64 ey, .int .i64 im, .int .i64 rd] 36)).cell? ⟨wr.heap.size, 0, none⟩ = some (.int .i64 ey) := by simp [go_sem]
      have t1 : (wr.alloc (.cells #[.int .i64 ey, .int .i64 im, .int .i64 rd] 36)).cell? ⟨wr.heap.size, 1, none⟩ = some (.int .i64 im) := by simp [go_sem]
      have t2 : (wr.alloc (.cells #[.int .i64 ey, .int .i64 im, .int .i64 rd] 36)).cell? ⟨wr.heap.size, 2, none⟩ = some (.int .i64 rd) := by simp [go_sem]
      clear c0 c1 c2 c3 c4 c5 c6 c7 a0 a1 b0 b1 e0 e1 hw d0 d1 d2
      generalize wr.heap.size = gT at t0 t1 t2 ⊢
      generalize hWQ : wr.alloc (.cells #[.int .i64 ey, .int .i64 im, .int .i64 rd] 36) = X0 at hv t0 t1 t2 ⊢
      clear hWQ
      obtain ⟨⟨c0, c1, c2, c3, c4, c5, c6, c7⟩, a0, a1, b0, b1, e0, e1, hw⟩ := HB.out X0 (BT hV (BT hB hv))
      have hie := isEye_any h ey X0
      unfold Wd.val at hie
      rw [HLA.out] at c7 hie
      go_wp2_with fail
      refine hie.mono ?_
      rintro e X1 ⟨rfl, hx⟩
      have hv := BT hv hx
      have t1 := cellB t1 hx
      have t2 := cellB t2 hx
      clear hie c0 c1 c2 c3 c4 c5 c6 c7 a0 a1 b0 b1 e0 e1 hw t0 hx
      obtain ⟨⟨c0, c1, c2, c3, c4, c5, c6, c7⟩, a0, a1, b0, b1, e0, e1, hw⟩ := HB.out X1 (BT hV (BT hB hv))
      rw [HLA.out] at c7
      cases p0 : isImg h.eyes ey
      · have hRn : Hid (R = false) := hRf.out (by unfold lookB; simp [p0])
        have hfin := BT hW0 (BT hV (BT hB hv))
        clear hRf hsn
        go_wp2
        go_ret
        exact ⟨by rw [hRn.out]; rfl, hfin⟩
      have P0 := Lib.hid p0
      clear p0
      have hii := isImage_any h im X1
      unfold Wd.val at hii
      rw [HLA.out] at hii
      go_wp2_with fail
      refine hii.mono ?_
      rintro e X2 ⟨rfl, hx⟩
      have hv := BT hv hx
      have t2 := cellB t2 hx
      clear hii c0 c1 c2 c3 c4 c5 c6 c7 a0 a1 b0 b1 e0 e1 hw t1 hx
      obtain ⟨⟨c0, c1, c2, c3, c4, c5, c6, c7⟩, a0, a1, b0, b1, e0, e1, hw⟩ := HB.out X2 (BT hV (BT hB hv))
      cases p1 : isImg h.images im
      · have hRn : Hid (R = false) := hRf.out (by unfold lookB; simp [p1])
        have hfin := BT hW0 (BT hV (BT hB hv))
        clear hRf hsn
        go_wp2
        go_ret
        exact ⟨by rw [hRn.out]; rfl, hfin⟩
      have P1 := Lib.hid p1
      clear p1
      have hsy := says_any h.a h.cap h.eLo h.eHi rd xs X2 hw.sp hw.lx d3
      rw [hw.nx] at hsy
      go_wp2_with fail
      refine hsy.mono ?_
      rintro e X3 ⟨rfl, hx⟩
      have hv := BT hv hx
      clear hsy c0 c1 c2 c3 c4 c5 c6 c7 a0 a1 b0 b1 e0 e1 hw t2 hx
      cases p2 : saysB xs h.eLo h.eHi rd
      · have hRn : Hid (R = false) := hRf.out (by unfold lookB; simp [p2])
        have hfin := BT hW0 (BT hV (BT hB hv))
        clear hRf hsn
        go_wp2
        go_ret
        exact ⟨by rw [hRn.out]; rfl, hfin⟩
      have hsn2 := Lib.hid (hsn.out (by unfold lookB; simp [P0.out, P1.out, p2]))
      have hBB := BT hB hv
      clear p2 hsn hRf hall
      go_wp2_with fail
      go_roundw
      case rel => first | exact ⟨k + 1, by omega, by go_num, hsn2, hBB⟩ | ((repeat apply Exists.intro); exact ⟨⟨k + 1, by omega, by go_num, hsn2, hBB⟩, rfl⟩)
      case measure => simp [intOf]; omega
    · obtain rfl : k = h.ln := by omega
      have hRt : Hid (R = true) := by
        show _ = _
        rw [← HR.out]
        unfold validW
        have e : ls.take h.ln = ls := by rw [← HM.out.nl]; exact List.take_length
        have := hall.out
        rw [e] at this
        simp [this, HQ0.out, HQ1.out, HQ2.out, HQ3.out, HQ4.out, h12]
      have hfin := BT hW0 (BT hV hB)
      clear hall
      go_wp2
      go_ret
      exact ⟨by rw [hRt.out]; rfl, hfin⟩
end Ey
end Go.Proofs.YtcfjakifeihbpaaGreat
