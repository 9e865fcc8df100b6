/- 'EyeMore': for every watch, any look and any number, in whatever memory, on every order of evaluation that Go leaves open: the call returns true, and what came in reads as before. No condition. -/
import Derived.Test.YtcfjakifeihbpaaEtk
import Derived.Test.YtcfjakifeihbpaaEmm
import Derived.Test.YtcfjakifeihbpaaEar
namespace Go.Proofs.Ytcfjakifeihbpaa
namespace Ey
open Go.RowKit

theorem Slots.bx {X X' : World} {g g' n : Nat} (k : Slots g n X) (hx : BX g' X X') (hne : g ≠ g') : Slots g n X' := fun o ho => by
  have hl : g < X.heap.size := by
    have := (k o ho).1
    cases hc : X.cell? ⟨g, o, none⟩ with
    | none => rw [hc] at this; cases this
    | some v => exact World.block_lt_of_cell? _ _ hc
  have hb := hx.block g hl hne
  rw [World.cell?_of_block (a := ⟨g, o, none⟩) hb, World.frozen?_of_block (a := ⟨g, o, none⟩) hb]; exact k o ho
theorem BoxW.bx {X X' : World} {g g' : Nat} {h : Wd} (k : BoxW X g h) (hx : BX g' X X') (hne : g ≠ g') : BoxW X' g h := by
  have hlt : g < X.heap.size := World.block_lt_of_cell? _ _ k.c0
  obtain ⟨a0, a1, a2, a3, a4, a5, a6, a7⟩ := k
  exact ⟨(hx.cell g _ hlt hne).trans a0, (hx.cell g _ hlt hne).trans a1, (hx.cell g _ hlt hne).trans a2, (hx.cell g _ hlt hne).trans a3, (hx.cell g _ hlt hne).trans a4, (hx.cell g _ hlt hne).trans a5, (hx.cell g _ hlt hne).trans a6, (hx.cell g _ hlt hne).trans a7⟩
theorem Box8.bx {X X' : World} {g g' : Nat} {h : Wd} (k : Box8 X g h) (hx : BX g' X X') (hne : g ≠ g') : Box8 X' g h := ⟨k.box.bx hx hne, Slots.bx k.slots hx hne⟩
theorem add_block (b o j : Nat) : ((⟨b, o, none⟩ : Addr).add j).block = b := by
  have : (⟨b, o, none⟩ : Addr).add j = ⟨b, o + j, none⟩ := by unfold Addr.add; split <;> simp_all
  rw [this]
theorem gs_ne {gs gv j : Nat} (hne : gs ≠ gv) : some ((⟨gs, 0, none⟩ : Addr).add j).block ≠ Value.ownBlock (.slice (some ⟨gv, 0, none⟩) 0 0) := by
  rw [add_block]
  intro e
  have e2 : gs = gv := by simpa [Value.ownBlock] using e
  exact hne e2
theorem box8_look {X : World} {g : Nat} {h : Wd} (k : Box8 X g h) (sa : Option Addr) (n cap : Nat) : Box8 (X.setCell ⟨g, 7, none⟩ (.slice sa n cap)) g (partH h sa n cap) := by
  obtain ⟨⟨i0, i1, i2, i3, i4, i5, i6, i7⟩, sl⟩ := k
  have c : ∀ o v, X.cell? ⟨g, o, none⟩ = some v → o ≠ 7 → (X.setCell ⟨g, 7, none⟩ (.slice sa n cap)).cell? ⟨g, o, none⟩ = some v := fun o v hv ho => by
    rw [World.cell?_setCell_other _ _ _ _ (by intro he; injection he; omega)]; exact hv
  exact ⟨⟨c _ _ i0 (by omega), c _ _ i1 (by omega), c _ _ i2 (by omega), c _ _ i3 (by omega), c _ _ i4 (by omega), c _ _ i5 (by omega), c _ _ i6 (by omega), World.cell?_setCell_same _ _ _ i7⟩, sl.set _ _⟩
theorem box8_two {X : World} {g p q : Nat} {h : Wd} (k : Box8 X g h) (a b : Int) (hpq : p ≠ q) : (∀ o v, X.cell? ⟨g, o, none⟩ = some v → o ≠ p → o ≠ q → ((X.setCell ⟨g, p, none⟩ (.int .i64 a)).setCell ⟨g, q, none⟩ (.int .i64 b)).cell? ⟨g, o, none⟩ = some v) ∧
    (∀ v, X.cell? ⟨g, p, none⟩ = some v → ((X.setCell ⟨g, p, none⟩ (.int .i64 a)).setCell ⟨g, q, none⟩ (.int .i64 b)).cell? ⟨g, p, none⟩ = some (.int .i64 a)) ∧
    (∀ v, X.cell? ⟨g, q, none⟩ = some v → ((X.setCell ⟨g, p, none⟩ (.int .i64 a)).setCell ⟨g, q, none⟩ (.int .i64 b)).cell? ⟨g, q, none⟩ = some (.int .i64 b)) ∧ Slots g 8 ((X.setCell ⟨g, p, none⟩ (.int .i64 a)).setCell ⟨g, q, none⟩ (.int .i64 b)) := by
  refine ⟨fun o v hv h1 h2 => ?_, fun v hv => ?_, fun v hv => ?_, (k.slots.set _ _).set _ _⟩
  · rw [World.cell?_setCell_other _ _ _ _ (by intro he; injection he; omega), World.cell?_setCell_other _ _ _ _ (by intro he; injection he; omega)]; exact hv
  · rw [World.cell?_setCell_other _ _ _ _ (by intro he; injection he; omega)]; exact World.cell?_setCell_same _ _ _ hv
  · exact World.cell?_setCell_same _ _ _ (u := v) (by rw [World.cell?_setCell_other _ _ _ _ (by intro he; injection he; omega)]; exact hv)
theorem box8_thin {X : World} {g : Nat} {h : Wd} (k : Box8 X g h) (a b : Int) : Box8 ((X.setCell ⟨g, 5, none⟩ (.int .i64 a)).setCell ⟨g, 6, none⟩ (.int .i64 b)) g (thinH h a b) := by
  obtain ⟨c, c5, c6, sl⟩ := box8_two (p := 5) (q := 6) k a b (by omega)
  obtain ⟨⟨i0, i1, i2, i3, i4, i5, i6, i7⟩, _⟩ := k
  exact ⟨⟨c _ _ i0 (by omega) (by omega), c _ _ i1 (by omega) (by omega), c _ _ i2 (by omega) (by omega), c _ _ i3 (by omega) (by omega), c _ _ i4 (by omega) (by omega), c5 _ i5, c6 _ i6, c _ _ i7 (by omega) (by omega)⟩, sl⟩
theorem box8_best {X : World} {g : Nat} {h : Wd} (k : Box8 X g h) (a : Int) : Box8 ((X.setCell ⟨g, 1, none⟩ (.int .i64 a)).setCell ⟨g, 2, none⟩ (.int .i64 h.eHi)) g (bestH h a) := by
  obtain ⟨c, c5, c6, sl⟩ := box8_two (p := 1) (q := 2) k a h.eHi (by omega)
  obtain ⟨⟨i0, i1, i2, i3, i4, i5, i6, i7⟩, _⟩ := k
  exact ⟨⟨c _ _ i0 (by omega) (by omega), c5 _ i1, c6 _ i2, c _ _ i3 (by omega) (by omega), c _ _ i4 (by omega) (by omega), c _ _ i5 (by omega) (by omega), c _ _ i6 (by omega) (by omega), c _ _ i7 (by omega) (by omega)⟩, sl⟩
/-- A watch that lies in a slice's block, from some cell on. -/
structure BoxO (X : World) (g f : Nat) (h : Wd) : Prop where
  c0 : X.cell? ⟨g, f, none⟩ = some (.slice h.a h.n h.cap)
  c1 : X.cell? ⟨g, f + 1, none⟩ = some (.int .i64 h.eLo)
  c2 : X.cell? ⟨g, f + 2, none⟩ = some (.int .i64 h.eHi)
  c3 : X.cell? ⟨g, f + 3, none⟩ = some (.int .i64 h.images)
  c4 : X.cell? ⟨g, f + 4, none⟩ = some (.int .i64 h.eyes)
  c5 : X.cell? ⟨g, f + 5, none⟩ = some (.int .i64 h.hLo)
  c6 : X.cell? ⟨g, f + 6, none⟩ = some (.int .i64 h.hHi)
  c7 : X.cell? ⟨g, f + 7, none⟩ = some (.slice h.la h.ln h.lcap)
theorem BoxO.grown {X X' : World} {g f : Nat} {h : Wd} (k : BoxO X g f h) (hb : Below X.heap.size X X') : BoxO X' g f h := ⟨cellB k.c0 hb, cellB k.c1 hb, cellB k.c2 hb, cellB k.c3 hb, cellB k.c4 hb, cellB k.c5 hb, cellB k.c6 hb, cellB k.c7 hb⟩
def pick3 {α : Type} (x y z : α) (k : Nat) : α := if k = 0 then x else if k = 1 then y else z
theorem boxes3 (w : World) (p q r : Wd) (t : TypeId) : ∀ k, k < 3 → BoxO (w.alloc (.cells #[.slice p.a p.n p.cap, .int .i64 p.eLo, .int .i64 p.eHi, .int .i64 p.images, .int .i64 p.eyes, .int .i64 p.hLo, .int .i64 p.hHi, .slice p.la p.ln p.lcap,
    .slice q.a q.n q.cap, .int .i64 q.eLo, .int .i64 q.eHi, .int .i64 q.images, .int .i64 q.eyes, .int .i64 q.hLo, .int .i64 q.hHi, .slice q.la q.ln q.lcap,
    .slice r.a r.n r.cap, .int .i64 r.eLo, .int .i64 r.eHi, .int .i64 r.images, .int .i64 r.eyes, .int .i64 r.hLo, .int .i64 r.hHi, .slice r.la r.ln r.lcap] t)) w.heap.size (k * 8) (pick3 p q r k) := by
  intro k hk
  have : k = 0 ∨ k = 1 ∨ k = 2 := by omega
  rcases this with rfl | rfl | rfl <;> (unfold pick3; constructor <;> simp [go_sem])
/-- What lies there while the watches are looked at. -/
structure MS (Y : World) (B gS : Nat) (h : Wd) (xs : List (Int × Int)) (ls : List LkV) (hk : Nat → Wd) (lk : Nat → List LkV) : Prop where
  bw : BoxA Y B h xs ls
  cs : ∀ k, k < 3 → BoxO Y gS (k * 8) (hk k)
  hs : ∀ k, k < 3 → HasW Y (hk k) xs (lk k)
theorem MS.grown {Y Y' : World} {B gS : Nat} {h : Wd} {xs : List (Int × Int)} {ls : List LkV} {hk : Nat → Wd} {lk : Nat → List LkV} (m : MS Y B gS h xs ls hk lk) (hb : Below Y.heap.size Y Y') : MS Y' B gS h xs ls hk lk :=
  ⟨m.bw.grown hb, fun k hk => (m.cs k hk).grown hb, fun k hk => (m.hs k hk).below hb⟩
set_option maxRecDepth 100000 in
theorem inC_yes (s1 s2 t1 t2 : Int) (h1 : s1 ≤ t1) (h2 : t2 ≤ s2) (w : World) : Calls Try.prog 37 #[.agg #[.int .i64 t1, .int .i64 t2], .agg #[.int .i64 s1, .int .i64 s2]] w (Ret (.bool true) w) := by
  have n1 : t1 ≥ s1 := h1
  go_enter Try.func37, Try.ntmps37
  go_wp2
  go_ret
  exact ⟨rfl, BT (newB _ _) (newB _ _)⟩
set_option maxRecDepth 100000 in
set_option maxHeartbeats 16000000 in
theorem more_walk (h : Wd) (xs : List (Int × Int)) (ls : List LkV) (ey im rd y : Int) (w : World) (hm : HasW w h xs ls) (hrd : rd ≤ 9223372036854775807) (hy : 0 ≤ y ∧ y ≤ 255) :
    Calls Try.prog 10 #[h.val, .agg #[.int .i64 ey, .int .i64 im, .int .i64 rd], .int .u8 y] w (Ret (.bool true) w) := by
  have hX0 := newB w (.cells #[.slice h.a h.n h.cap, .int .i64 h.eLo, .int .i64 h.eHi, .int .i64 h.images, .int .i64 h.eyes, .int .i64 h.hLo, .int .i64 h.hHi, .slice h.la h.ln h.lcap] 29)
  have hX1 := newB (w.alloc (.cells #[.slice h.a h.n h.cap, .int .i64 h.eLo, .int .i64 h.eHi, .int .i64 h.images, .int .i64 h.eyes, .int .i64 h.hLo, .int .i64 h.hHi, .slice h.la h.ln h.lcap] 29)) (.cells #[.int .i64 ey, .int .i64 im, .int .i64 rd] 47)
  have hX := BT hX0 hX1
  have HB : Hid (BoxA _ _ h xs ls) := ((⟨boxW_new w h 29, hm.below hX0⟩ : BoxA _ _ h xs ls).grown hX1)
  have HLc : Hid ((∀ Y, Below ((w.alloc (.cells #[.slice h.a h.n h.cap, .int .i64 h.eLo, .int .i64 h.eHi, .int .i64 h.images, .int .i64 h.eyes, .int .i64 h.hLo, .int .i64 h.hHi, .slice h.la h.ln h.lcap] 29)).alloc (.cells #[.int .i64 ey, .int .i64 im, .int .i64 rd] 47)).heap.size ((w.alloc (.cells #[.slice h.a h.n h.cap, .int .i64 h.eLo, .int .i64 h.eHi, .int .i64 h.images, .int .i64 h.eyes, .int .i64 h.hLo, .int .i64 h.hHi, .slice h.la h.ln h.lcap] 29)).alloc (.cells #[.int .i64 ey, .int .i64 im, .int .i64 rd] 47)) Y → Y.cell? ⟨w.heap.size + 1, 0, none⟩ = some (.int .i64 ey) ∧ Y.cell? ⟨w.heap.size + 1, 1, none⟩ = some (.int .i64 im) ∧ Y.cell? ⟨w.heap.size + 1, 2, none⟩ = some (.int .i64 rd))) :=
    fun Y hY => ⟨cellB (by simp [go_sem]) hY, cellB (by simp [go_sem]) hY, cellB (by simp [go_sem]) hY⟩
  have HM := Lib.hid hm
  have hfar : Hid (∀ Y, Below w.heap.size w Y → Calls Try.prog 12 #[h.val, .int .i64 7] Y (Ret (.bool (farB h xs ls 7)) Y)) := fun Y hY => far_any h xs ls 7 Y (hm.below hY)
  have hwat : Hid (∀ Y, Below w.heap.size w Y → farB h xs ls 7 = false → Calls Try.prog 33 #[h.val] Y (Ret (.bool (validW h xs ls)) Y)) := fun Y hY hf => watchR_any h xs ls Y (hm.below hY) (farB_le hf).2 (farB_le hf).1
  have hnl := Lib.hid hm.nl
  obtain ⟨hy0, hy1⟩ := hy
  clear hm hX0 hX1
  unfold Wd.val at hfar hwat ⊢
  go_enter Try.func10, Try.ntmps10
  go_upto_region 1 with fail
  generalize (w.alloc (.cells #[.slice h.a h.n h.cap, .int .i64 h.eLo, .int .i64 h.eHi, .int .i64 h.images, .int .i64 h.eyes, .int .i64 h.hLo, .int .i64 h.hHi, .slice h.la h.ln h.lcap] 29)).alloc (.cells #[.int .i64 ey, .int .i64 im, .int .i64 rd] 47) = w0 at *
  obtain ⟨⟨c0, c1, c2, c3, c4, c5, c6, c7⟩, hh⟩ := HB.out
  clear hh
  go_wp2_with fail
  refine (hfar.out _ hX).mono ?_
  rintro e w1 ⟨rfl, hx1⟩
  cases hf : farB h xs ls 7 with
  | true =>
    have hB := BT hX hx1
    go_wp2_with fail
    refine (awake_any _).mono ?_
    rintro e wz ⟨rfl, hz⟩
    have hB := BT hB hz
    go_wp2
    go_ret
    exact ⟨rfl, hB⟩
  | false =>
  have hB := BT hX hx1
  have HB := Lib.hid (HB.out.grown hx1)
  clear c0 c1 c2 c3 c4 c5 c6 c7 hfar hX
  obtain ⟨⟨c0, c1, c2, c3, c4, c5, c6, c7⟩, hh⟩ := HB.out
  clear hh
  go_wp2_with fail
  refine (hwat.out _ hB hf).mono ?_
  rintro e w2 ⟨rfl, hx2⟩
  have hB2 := BT hB hx2
  have HB := Lib.hid (HB.out.grown hx2)
  have HL2 : Hid (∀ Y, Below w2.heap.size w2 Y → Y.cell? ⟨w.heap.size + 1, 0, none⟩ = some (.int .i64 ey) ∧ Y.cell? ⟨w.heap.size + 1, 1, none⟩ = some (.int .i64 im) ∧ Y.cell? ⟨w.heap.size + 1, 2, none⟩ = some (.int .i64 rd)) := fun Y hY => HLc.out Y (BT (BT hx1 hx2) hY)
  clear c0 c1 c2 c3 c4 c5 c6 c7 hx1 hx2 hwat hB HLc
  cases hv : validW h xs ls with
  | false =>
    go_wp2_with fail
    refine (awake_any _).mono ?_
    rintro e wz ⟨rfl, hz⟩
    have hB := BT hB2 hz
    go_wp2
    go_ret
    exact ⟨rfl, hB⟩
  | true =>
  have HVW := validW_iff hv
  obtain ⟨E, hE⟩ : ∃ E : Nat, h.eyes = (E : Int) := ⟨h.eyes.toNat, by have := HVW.ey; omega⟩
  obtain ⟨I, hI⟩ : ∃ I : Nat, h.images = (I : Int) := ⟨h.images.toNat, by have := HVW.im; omega⟩
  have hE1 : 1 ≤ E ∧ E ≤ 4 := by have := HVW.ey; omega
  have hI1 : 1 ≤ I ∧ I ≤ 6 := by have := HVW.im; omega
  have hl7 : ls.length ≤ 7 := by
    unfold farB at hf
    rw [hv] at hf
    simp at hf
    omega
  have hx100 : xs.length ≤ 100 := (farB_le hf).2
  have hn7 : h.ln ≤ 7 := by rw [← hnl.out]; exact hl7
  have hhb := HVW.hb
  have heb : -100 ≤ h.eLo ∧ h.eLo ≤ h.eHi ∧ h.eHi ≤ 100 := by
    have h1 := HVW.sc
    unfold validB at h1
    rw [Bool.and_eq_true, Bool.and_eq_true, hold_iff, hold_iff] at h1
    omega
  have HV := Lib.hid hv
  have HE := Lib.hid hE
  have HI := Lib.hid hI
  have HE1 := Lib.hid hE1
  have HI1 := Lib.hid hI1
  have HL7 := Lib.hid hl7
  have HX1 := Lib.hid hx100
  have HHB := Lib.hid hhb
  have HEB := Lib.hid heb
  clear hv hf HVW hE hI hE1 hI1 hl7 hx100 hhb heb
  have HS : Hid (∀ X, Below w2.heap.size w2 X → X.cell? ⟨w.heap.size, 0, none⟩ = some (.slice h.a h.n h.cap) ∧ X.cell? ⟨w.heap.size, 1, none⟩ = some (.int .i64 h.eLo) ∧ X.cell? ⟨w.heap.size, 2, none⟩ = some (.int .i64 h.eHi) ∧ X.cell? ⟨w.heap.size, 3, none⟩ = some (.int .i64 h.images) ∧ X.cell? ⟨w.heap.size, 4, none⟩ = some (.int .i64 h.eyes) ∧ X.cell? ⟨w.heap.size, 5, none⟩ = some (.int .i64 h.hLo) ∧ X.cell? ⟨w.heap.size, 6, none⟩ = some (.int .i64 h.hHi) ∧ X.cell? ⟨w.heap.size, 7, none⟩ = some (.slice h.la h.ln h.lcap)) := fun X hX => by
    obtain ⟨⟨i0, i1, i2, i3, i4, i5, i6, i7⟩, _⟩ := HB.out.grown hX
    exact ⟨i0, i1, i2, i3, i4, i5, i6, i7⟩
  have HRD : Hid (∀ s ∈ ls ++ [(ey, im, rd)], s.2.2 ≤ 9223372036854775807) := fun s hsm => by
    rcases List.mem_append.1 hsm with hsm | hsm
    · obtain ⟨j, hj, e⟩ := List.getElem_of_mem hsm
      have e2 : ls.getD j (0, 0, 0) = s := by rw [← e]; simp [List.getD, hj]
      rcases HM.out.lk with h0 | ⟨b, o, _, _, hc⟩
      · rw [h0] at hj; simp at hj
      · have := (hc j hj).2.2.2
        rw [e2] at this; exact this
    · have : s = (ey, im, rd) := by simpa using hsm
      rw [this]; exact hrd
  have hB0 : Below w2.heap.size w2 w2.drew := Below.drew (Below.refl _ _)
  go_upto_region 3 with fail
  go_cut [7, 8, 9] from 47 to 49 (fun a7 a8 a9 X => ∃ g7 g8 g9 : Nat, a7 = .pointer (some ⟨g7, 0, none⟩) ∧ a8 = .pointer (some ⟨g8, 0, none⟩) ∧ a9 = .pointer (some ⟨g9, 0, none⟩) ∧ Box8 X g7 h ∧ Box8 X g8 h ∧ Box8 X g9 h ∧ (g7 ≠ g8 ∧ g7 ≠ g9 ∧ g8 ≠ g9) ∧ (w2.heap.size ≤ g7 ∧ w2.heap.size ≤ g8 ∧ w2.heap.size ≤ g9) ∧ Below w2.heap.size w2 X)
  case first =>
    refine wp_region_tree (.read 0 (.read 1 (.read 2 (.three 3 (.two 4 (.one 5 (.one 6 (.one 7 (.one 8 (.leaf))))) 5 (.one 4 (.one 6 (.one 7 (.one 8 (.leaf)))))) 4 (.two 3 (.one 5 (.one 6 (.one 7 (.one 8 (.leaf))))) 5 (.one 3 (.one 6 (.one 7 (.one 8 (.leaf)))))) 5 (.two 3 (.one 4 (.one 6 (.one 7 (.one 8 (.leaf))))) 4 (.one 3 (.one 6 (.one 7 (.one 8 (.leaf)))))))))) (fun w' => w'.cell? ⟨w.heap.size, 0, none⟩ = some (.slice h.a h.n h.cap) ∧ w'.cell? ⟨w.heap.size, 1, none⟩ = some (.int .i64 h.eLo) ∧ w'.cell? ⟨w.heap.size, 2, none⟩ = some (.int .i64 h.eHi) ∧ w'.cell? ⟨w.heap.size, 3, none⟩ = some (.int .i64 h.images) ∧ w'.cell? ⟨w.heap.size, 4, none⟩ = some (.int .i64 h.eyes) ∧ w'.cell? ⟨w.heap.size, 5, none⟩ = some (.int .i64 h.hLo) ∧ w'.cell? ⟨w.heap.size, 6, none⟩ = some (.int .i64 h.hHi) ∧ w'.cell? ⟨w.heap.size, 7, none⟩ = some (.slice h.la h.ln h.lcap)) (by kernel_rfl) (by kernel_rfl) (fun _ _ d _ _ h => by cases d <;> exact h) (HS.out _ hB0) ?_
    generalize w2.drew = X0 at hB0 ⊢
    repeat (first | (refine tr_read rfl (by rfl) _ (fun w' hS => by (try dsimp only at hS); go_simp; (try with_reducible rfl)) ?_; (try simp only [Act.put, List.setIfInBounds_toArray, List.set_cons_zero, List.set_cons_succ])) | (refine tr_skip rfl (by rfl) ?_; (try simp only [Act.put, List.setIfInBounds_toArray, List.set_cons_zero, List.set_cons_succ])))
    refine ⟨?_, ?_, ?_⟩
    · skip
      refine tr_step rfl (by rfl) (fun K hK => ?_)
      have hB1 := BA hB0 (.cells #[.slice none 0 0, .int .i64 0, .int .i64 0, .int .i64 0, .int .i64 0, .int .i64 0, .int .i64 0, .slice none 0 0] 29)
      have hs7_1 : Slots X0.heap.size 8 (X0.alloc (.cells #[.slice none 0 0, .int .i64 0, .int .i64 0, .int .i64 0, .int .i64 0, .int .i64 0, .int .i64 0, .slice none 0 0] 29)) := slots8 X0 _ _ 0 0 0 0 0 0 _
      have hg7 := hB0.size
      go_simp
      generalize X0.heap.size = g7 at *
      generalize X0.alloc (.cells #[.slice none 0 0, .int .i64 0, .int .i64 0, .int .i64 0, .int .i64 0, .int .i64 0, .int .i64 0, .slice none 0 0] 29) = X1 at *
      refine hK _ _ (HS.out _ hB1) ?_
      clear hK K hB0 
      (try simp only [Act.put, List.setIfInBounds_toArray, List.set_cons_zero, List.set_cons_succ])
      refine ⟨?_, ?_⟩
      · skip
        refine tr_step rfl (by rfl) (fun K hK => ?_)
        have hB2 := BA hB1 (.cells #[.slice none 0 0, .int .i64 0, .int .i64 0, .int .i64 0, .int .i64 0, .int .i64 0, .int .i64 0, .slice none 0 0] 29)
        have hs7_2 := hs7_1.below (newB X1 (.cells #[.slice none 0 0, .int .i64 0, .int .i64 0, .int .i64 0, .int .i64 0, .int .i64 0, .int .i64 0, .slice none 0 0] 29)) (lt8 hs7_1)
        have hl7_2 := lt8 hs7_1
        have hs8_2 : Slots X1.heap.size 8 (X1.alloc (.cells #[.slice none 0 0, .int .i64 0, .int .i64 0, .int .i64 0, .int .i64 0, .int .i64 0, .int .i64 0, .slice none 0 0] 29)) := slots8 X1 _ _ 0 0 0 0 0 0 _
        have hg8 := hB1.size
        go_simp
        generalize X1.heap.size = g8 at *
        generalize X1.alloc (.cells #[.slice none 0 0, .int .i64 0, .int .i64 0, .int .i64 0, .int .i64 0, .int .i64 0, .int .i64 0, .slice none 0 0] 29) = X2 at *
        refine hK _ _ (HS.out _ hB2) ?_
        clear hK K hB1 hs7_1
        (try simp only [Act.put, List.setIfInBounds_toArray, List.set_cons_zero, List.set_cons_succ])
        refine tr_step rfl (by rfl) (fun K hK => ?_)
        have hB3 := BA hB2 (.cells #[.slice none 0 0, .int .i64 0, .int .i64 0, .int .i64 0, .int .i64 0, .int .i64 0, .int .i64 0, .slice none 0 0] 29)
        have hs7_3 := hs7_2.below (newB X2 (.cells #[.slice none 0 0, .int .i64 0, .int .i64 0, .int .i64 0, .int .i64 0, .int .i64 0, .int .i64 0, .slice none 0 0] 29)) (lt8 hs7_2)
        have hl7_3 := lt8 hs7_2
        have hs8_3 := hs8_2.below (newB X2 (.cells #[.slice none 0 0, .int .i64 0, .int .i64 0, .int .i64 0, .int .i64 0, .int .i64 0, .int .i64 0, .slice none 0 0] 29)) (lt8 hs8_2)
        have hl8_3 := lt8 hs8_2
        have hs9_3 : Slots X2.heap.size 8 (X2.alloc (.cells #[.slice none 0 0, .int .i64 0, .int .i64 0, .int .i64 0, .int .i64 0, .int .i64 0, .int .i64 0, .slice none 0 0] 29)) := slots8 X2 _ _ 0 0 0 0 0 0 _
        have hg9 := hB2.size
        go_simp
        generalize X2.heap.size = g9 at *
        generalize X2.alloc (.cells #[.slice none 0 0, .int .i64 0, .int .i64 0, .int .i64 0, .int .i64 0, .int .i64 0, .int .i64 0, .slice none 0 0] 29) = X3 at *
        refine hK _ _ (HS.out _ hB3) ?_
        clear hK K hB2 hs7_2 hs8_2
        (try simp only [Act.put, List.setIfInBounds_toArray, List.set_cons_zero, List.set_cons_succ])
        refine tr_step rfl (by rfl) (fun K hK => ?_)
        obtain ⟨u0, q0, f0⟩ := hs7_3.get 0 (by omega)
        obtain ⟨u1, q1, f1⟩ := hs7_3.get 1 (by omega)
        obtain ⟨u2, q2, f2⟩ := hs7_3.get 2 (by omega)
        obtain ⟨u3, q3, f3⟩ := hs7_3.get 3 (by omega)
        obtain ⟨u4, q4, f4⟩ := hs7_3.get 4 (by omega)
        obtain ⟨u5, q5, f5⟩ := hs7_3.get 5 (by omega)
        obtain ⟨u6, q6, f6⟩ := hs7_3.get 6 (by omega)
        obtain ⟨u7, q7, f7⟩ := hs7_3.get 7 (by omega)
        have hB4 := (BC (BC (BC (BC (BC (BC (BC (BC hB3 g7 0 hg7 (.slice h.a h.n h.cap)) g7 1 hg7 (.int .i64 h.eLo)) g7 2 hg7 (.int .i64 h.eHi)) g7 3 hg7 (.int .i64 h.images)) g7 4 hg7 (.int .i64 h.eyes)) g7 5 hg7 (.int .i64 h.hLo)) g7 6 hg7 (.int .i64 h.hHi)) g7 7 hg7 (.slice h.la h.ln h.lcap))
        have hb7_4 := box_wput8 hs7_3 h
        have hbX := wput8_bx X3 g7 h
        unfold wput8 at hb7_4 hbX
        have hs8_4 := Slots.bx hs8_3 hbX (by omega)
        have hs9_4 := Slots.bx hs9_3 hbX (by omega)
        go_simp
        clear hbX q0 f0 q1 f1 q2 f2 q3 f3 q4 f4 q5 f5 q6 f6 q7 f7
        generalize ((((((((X3.setCell ⟨g7, 0, none⟩ (.slice h.a h.n h.cap)).setCell ⟨g7, 1, none⟩ (.int .i64 h.eLo)).setCell ⟨g7, 2, none⟩ (.int .i64 h.eHi)).setCell ⟨g7, 3, none⟩ (.int .i64 h.images)).setCell ⟨g7, 4, none⟩ (.int .i64 h.eyes)).setCell ⟨g7, 5, none⟩ (.int .i64 h.hLo)).setCell ⟨g7, 6, none⟩ (.int .i64 h.hHi)).setCell ⟨g7, 7, none⟩ (.slice h.la h.ln h.lcap)) = X4 at *
        refine hK _ _ (HS.out _ hB4) ?_
        clear hK K hB3 hs7_3 hs8_3 hs9_3
        (try simp only [Act.put, List.setIfInBounds_toArray, List.set_cons_zero, List.set_cons_succ])
        refine tr_step rfl (by rfl) (fun K hK => ?_)
        obtain ⟨u0, q0, f0⟩ := hs8_4.get 0 (by omega)
        obtain ⟨u1, q1, f1⟩ := hs8_4.get 1 (by omega)
        obtain ⟨u2, q2, f2⟩ := hs8_4.get 2 (by omega)
        obtain ⟨u3, q3, f3⟩ := hs8_4.get 3 (by omega)
        obtain ⟨u4, q4, f4⟩ := hs8_4.get 4 (by omega)
        obtain ⟨u5, q5, f5⟩ := hs8_4.get 5 (by omega)
        obtain ⟨u6, q6, f6⟩ := hs8_4.get 6 (by omega)
        obtain ⟨u7, q7, f7⟩ := hs8_4.get 7 (by omega)
        have hB5 := (BC (BC (BC (BC (BC (BC (BC (BC hB4 g8 0 hg8 (.slice h.a h.n h.cap)) g8 1 hg8 (.int .i64 h.eLo)) g8 2 hg8 (.int .i64 h.eHi)) g8 3 hg8 (.int .i64 h.images)) g8 4 hg8 (.int .i64 h.eyes)) g8 5 hg8 (.int .i64 h.hLo)) g8 6 hg8 (.int .i64 h.hHi)) g8 7 hg8 (.slice h.la h.ln h.lcap))
        have hb8_5 := box_wput8 hs8_4 h
        have hbX := wput8_bx X4 g8 h
        unfold wput8 at hb8_5 hbX
        have hb7_5 := Box8.bx hb7_4 hbX (by omega)
        have hs9_5 := Slots.bx hs9_4 hbX (by omega)
        go_simp
        clear hbX q0 f0 q1 f1 q2 f2 q3 f3 q4 f4 q5 f5 q6 f6 q7 f7
        generalize ((((((((X4.setCell ⟨g8, 0, none⟩ (.slice h.a h.n h.cap)).setCell ⟨g8, 1, none⟩ (.int .i64 h.eLo)).setCell ⟨g8, 2, none⟩ (.int .i64 h.eHi)).setCell ⟨g8, 3, none⟩ (.int .i64 h.images)).setCell ⟨g8, 4, none⟩ (.int .i64 h.eyes)).setCell ⟨g8, 5, none⟩ (.int .i64 h.hLo)).setCell ⟨g8, 6, none⟩ (.int .i64 h.hHi)).setCell ⟨g8, 7, none⟩ (.slice h.la h.ln h.lcap)) = X5 at *
        refine hK _ _ (HS.out _ hB5) ?_
        clear hK K hB4 hs8_4 hb7_4 hs9_4
        (try simp only [Act.put, List.setIfInBounds_toArray, List.set_cons_zero, List.set_cons_succ])
        refine tr_step rfl (by rfl) (fun K hK => ?_)
        obtain ⟨u0, q0, f0⟩ := hs9_5.get 0 (by omega)
        obtain ⟨u1, q1, f1⟩ := hs9_5.get 1 (by omega)
        obtain ⟨u2, q2, f2⟩ := hs9_5.get 2 (by omega)
        obtain ⟨u3, q3, f3⟩ := hs9_5.get 3 (by omega)
        obtain ⟨u4, q4, f4⟩ := hs9_5.get 4 (by omega)
        obtain ⟨u5, q5, f5⟩ := hs9_5.get 5 (by omega)
        obtain ⟨u6, q6, f6⟩ := hs9_5.get 6 (by omega)
        obtain ⟨u7, q7, f7⟩ := hs9_5.get 7 (by omega)
        have hB6 := (BC (BC (BC (BC (BC (BC (BC (BC hB5 g9 0 hg9 (.slice h.a h.n h.cap)) g9 1 hg9 (.int .i64 h.eLo)) g9 2 hg9 (.int .i64 h.eHi)) g9 3 hg9 (.int .i64 h.images)) g9 4 hg9 (.int .i64 h.eyes)) g9 5 hg9 (.int .i64 h.hLo)) g9 6 hg9 (.int .i64 h.hHi)) g9 7 hg9 (.slice h.la h.ln h.lcap))
        have hb9_6 := box_wput8 hs9_5 h
        have hbX := wput8_bx X5 g9 h
        unfold wput8 at hb9_6 hbX
        have hb7_6 := Box8.bx hb7_5 hbX (by omega)
        have hb8_6 := Box8.bx hb8_5 hbX (by omega)
        go_simp
        clear hbX q0 f0 q1 f1 q2 f2 q3 f3 q4 f4 q5 f5 q6 f6 q7 f7
        generalize ((((((((X5.setCell ⟨g9, 0, none⟩ (.slice h.a h.n h.cap)).setCell ⟨g9, 1, none⟩ (.int .i64 h.eLo)).setCell ⟨g9, 2, none⟩ (.int .i64 h.eHi)).setCell ⟨g9, 3, none⟩ (.int .i64 h.images)).setCell ⟨g9, 4, none⟩ (.int .i64 h.eyes)).setCell ⟨g9, 5, none⟩ (.int .i64 h.hLo)).setCell ⟨g9, 6, none⟩ (.int .i64 h.hHi)).setCell ⟨g9, 7, none⟩ (.slice h.la h.ln h.lcap)) = X6 at *
        refine hK _ _ (HS.out _ hB6) ?_
        clear hK K hB5 hs9_5 hb7_5 hb8_5
        (try simp only [Act.put, List.setIfInBounds_toArray, List.set_cons_zero, List.set_cons_succ])
        show Exit.then _ _ Exit.normal _ _
        go_wp2_with fail
        go_meet
        exact ⟨g7, g8, g9, rfl, rfl, rfl, hb7_6, hb8_6, hb9_6, ⟨by omega, by omega, by omega⟩, ⟨hg7, hg8, hg9⟩, hB6⟩
      · skip
        refine tr_step rfl (by rfl) (fun K hK => ?_)
        have hB7 := BA hB1 (.cells #[.slice none 0 0, .int .i64 0, .int .i64 0, .int .i64 0, .int .i64 0, .int .i64 0, .int .i64 0, .slice none 0 0] 29)
        have hs7_7 := hs7_1.below (newB X1 (.cells #[.slice none 0 0, .int .i64 0, .int .i64 0, .int .i64 0, .int .i64 0, .int .i64 0, .int .i64 0, .slice none 0 0] 29)) (lt8 hs7_1)
        have hl7_7 := lt8 hs7_1
        have hs9_7 : Slots X1.heap.size 8 (X1.alloc (.cells #[.slice none 0 0, .int .i64 0, .int .i64 0, .int .i64 0, .int .i64 0, .int .i64 0, .int .i64 0, .slice none 0 0] 29)) := slots8 X1 _ _ 0 0 0 0 0 0 _
        have hg9 := hB1.size
        go_simp
        generalize X1.heap.size = g9 at *
        generalize X1.alloc (.cells #[.slice none 0 0, .int .i64 0, .int .i64 0, .int .i64 0, .int .i64 0, .int .i64 0, .int .i64 0, .slice none 0 0] 29) = X7 at *
        refine hK _ _ (HS.out _ hB7) ?_
        clear hK K hB1 hs7_1
        (try simp only [Act.put, List.setIfInBounds_toArray, List.set_cons_zero, List.set_cons_succ])
        refine tr_step rfl (by rfl) (fun K hK => ?_)
        have hB8 := BA hB7 (.cells #[.slice none 0 0, .int .i64 0, .int .i64 0, .int .i64 0, .int .i64 0, .int .i64 0, .int .i64 0, .slice none 0 0] 29)
        have hs7_8 := hs7_7.below (newB X7 (.cells #[.slice none 0 0, .int .i64 0, .int .i64 0, .int .i64 0, .int .i64 0, .int .i64 0, .int .i64 0, .slice none 0 0] 29)) (lt8 hs7_7)
        have hl7_8 := lt8 hs7_7
        have hs9_8 := hs9_7.below (newB X7 (.cells #[.slice none 0 0, .int .i64 0, .int .i64 0, .int .i64 0, .int .i64 0, .int .i64 0, .int .i64 0, .slice none 0 0] 29)) (lt8 hs9_7)
        have hl9_8 := lt8 hs9_7
        have hs8_8 : Slots X7.heap.size 8 (X7.alloc (.cells #[.slice none 0 0, .int .i64 0, .int .i64 0, .int .i64 0, .int .i64 0, .int .i64 0, .int .i64 0, .slice none 0 0] 29)) := slots8 X7 _ _ 0 0 0 0 0 0 _
        have hg8 := hB7.size
        go_simp
        generalize X7.heap.size = g8 at *
        generalize X7.alloc (.cells #[.slice none 0 0, .int .i64 0, .int .i64 0, .int .i64 0, .int .i64 0, .int .i64 0, .int .i64 0, .slice none 0 0] 29) = X8 at *
        refine hK _ _ (HS.out _ hB8) ?_
        clear hK K hB7 hs7_7 hs9_7
        (try simp only [Act.put, List.setIfInBounds_toArray, List.set_cons_zero, List.set_cons_succ])
        refine tr_step rfl (by rfl) (fun K hK => ?_)
        obtain ⟨u0, q0, f0⟩ := hs7_8.get 0 (by omega)
        obtain ⟨u1, q1, f1⟩ := hs7_8.get 1 (by omega)
        obtain ⟨u2, q2, f2⟩ := hs7_8.get 2 (by omega)
        obtain ⟨u3, q3, f3⟩ := hs7_8.get 3 (by omega)
        obtain ⟨u4, q4, f4⟩ := hs7_8.get 4 (by omega)
        obtain ⟨u5, q5, f5⟩ := hs7_8.get 5 (by omega)
        obtain ⟨u6, q6, f6⟩ := hs7_8.get 6 (by omega)
        obtain ⟨u7, q7, f7⟩ := hs7_8.get 7 (by omega)
        have hB9 := (BC (BC (BC (BC (BC (BC (BC (BC hB8 g7 0 hg7 (.slice h.a h.n h.cap)) g7 1 hg7 (.int .i64 h.eLo)) g7 2 hg7 (.int .i64 h.eHi)) g7 3 hg7 (.int .i64 h.images)) g7 4 hg7 (.int .i64 h.eyes)) g7 5 hg7 (.int .i64 h.hLo)) g7 6 hg7 (.int .i64 h.hHi)) g7 7 hg7 (.slice h.la h.ln h.lcap))
        have hb7_9 := box_wput8 hs7_8 h
        have hbX := wput8_bx X8 g7 h
        unfold wput8 at hb7_9 hbX
        have hs9_9 := Slots.bx hs9_8 hbX (by omega)
        have hs8_9 := Slots.bx hs8_8 hbX (by omega)
        go_simp
        clear hbX q0 f0 q1 f1 q2 f2 q3 f3 q4 f4 q5 f5 q6 f6 q7 f7
        generalize ((((((((X8.setCell ⟨g7, 0, none⟩ (.slice h.a h.n h.cap)).setCell ⟨g7, 1, none⟩ (.int .i64 h.eLo)).setCell ⟨g7, 2, none⟩ (.int .i64 h.eHi)).setCell ⟨g7, 3, none⟩ (.int .i64 h.images)).setCell ⟨g7, 4, none⟩ (.int .i64 h.eyes)).setCell ⟨g7, 5, none⟩ (.int .i64 h.hLo)).setCell ⟨g7, 6, none⟩ (.int .i64 h.hHi)).setCell ⟨g7, 7, none⟩ (.slice h.la h.ln h.lcap)) = X9 at *
        refine hK _ _ (HS.out _ hB9) ?_
        clear hK K hB8 hs7_8 hs9_8 hs8_8
        (try simp only [Act.put, List.setIfInBounds_toArray, List.set_cons_zero, List.set_cons_succ])
        refine tr_step rfl (by rfl) (fun K hK => ?_)
        obtain ⟨u0, q0, f0⟩ := hs8_9.get 0 (by omega)
        obtain ⟨u1, q1, f1⟩ := hs8_9.get 1 (by omega)
        obtain ⟨u2, q2, f2⟩ := hs8_9.get 2 (by omega)
        obtain ⟨u3, q3, f3⟩ := hs8_9.get 3 (by omega)
        obtain ⟨u4, q4, f4⟩ := hs8_9.get 4 (by omega)
        obtain ⟨u5, q5, f5⟩ := hs8_9.get 5 (by omega)
        obtain ⟨u6, q6, f6⟩ := hs8_9.get 6 (by omega)
        obtain ⟨u7, q7, f7⟩ := hs8_9.get 7 (by omega)
        have hB10 := (BC (BC (BC (BC (BC (BC (BC (BC hB9 g8 0 hg8 (.slice h.a h.n h.cap)) g8 1 hg8 (.int .i64 h.eLo)) g8 2 hg8 (.int .i64 h.eHi)) g8 3 hg8 (.int .i64 h.images)) g8 4 hg8 (.int .i64 h.eyes)) g8 5 hg8 (.int .i64 h.hLo)) g8 6 hg8 (.int .i64 h.hHi)) g8 7 hg8 (.slice h.la h.ln h.lcap))
        have hb8_10 := box_wput8 hs8_9 h
        have hbX := wput8_bx X9 g8 h
        unfold wput8 at hb8_10 hbX
        have hb7_10 := Box8.bx hb7_9 hbX (by omega)
        have hs9_10 := Slots.bx hs9_9 hbX (by omega)
        go_simp
        clear hbX q0 f0 q1 f1 q2 f2 q3 f3 q4 f4 q5 f5 q6 f6 q7 f7
        generalize ((((((((X9.setCell ⟨g8, 0, none⟩ (.slice h.a h.n h.cap)).setCell ⟨g8, 1, none⟩ (.int .i64 h.eLo)).setCell ⟨g8, 2, none⟩ (.int .i64 h.eHi)).setCell ⟨g8, 3, none⟩ (.int .i64 h.images)).setCell ⟨g8, 4, none⟩ (.int .i64 h.eyes)).setCell ⟨g8, 5, none⟩ (.int .i64 h.hLo)).setCell ⟨g8, 6, none⟩ (.int .i64 h.hHi)).setCell ⟨g8, 7, none⟩ (.slice h.la h.ln h.lcap)) = X10 at *
        refine hK _ _ (HS.out _ hB10) ?_
        clear hK K hB9 hs8_9 hb7_9 hs9_9
        (try simp only [Act.put, List.setIfInBounds_toArray, List.set_cons_zero, List.set_cons_succ])
        refine tr_step rfl (by rfl) (fun K hK => ?_)
        obtain ⟨u0, q0, f0⟩ := hs9_10.get 0 (by omega)
        obtain ⟨u1, q1, f1⟩ := hs9_10.get 1 (by omega)
        obtain ⟨u2, q2, f2⟩ := hs9_10.get 2 (by omega)
        obtain ⟨u3, q3, f3⟩ := hs9_10.get 3 (by omega)
        obtain ⟨u4, q4, f4⟩ := hs9_10.get 4 (by omega)
        obtain ⟨u5, q5, f5⟩ := hs9_10.get 5 (by omega)
        obtain ⟨u6, q6, f6⟩ := hs9_10.get 6 (by omega)
        obtain ⟨u7, q7, f7⟩ := hs9_10.get 7 (by omega)
        have hB11 := (BC (BC (BC (BC (BC (BC (BC (BC hB10 g9 0 hg9 (.slice h.a h.n h.cap)) g9 1 hg9 (.int .i64 h.eLo)) g9 2 hg9 (.int .i64 h.eHi)) g9 3 hg9 (.int .i64 h.images)) g9 4 hg9 (.int .i64 h.eyes)) g9 5 hg9 (.int .i64 h.hLo)) g9 6 hg9 (.int .i64 h.hHi)) g9 7 hg9 (.slice h.la h.ln h.lcap))
        have hb9_11 := box_wput8 hs9_10 h
        have hbX := wput8_bx X10 g9 h
        unfold wput8 at hb9_11 hbX
        have hb7_11 := Box8.bx hb7_10 hbX (by omega)
        have hb8_11 := Box8.bx hb8_10 hbX (by omega)
        go_simp
        clear hbX q0 f0 q1 f1 q2 f2 q3 f3 q4 f4 q5 f5 q6 f6 q7 f7
        generalize ((((((((X10.setCell ⟨g9, 0, none⟩ (.slice h.a h.n h.cap)).setCell ⟨g9, 1, none⟩ (.int .i64 h.eLo)).setCell ⟨g9, 2, none⟩ (.int .i64 h.eHi)).setCell ⟨g9, 3, none⟩ (.int .i64 h.images)).setCell ⟨g9, 4, none⟩ (.int .i64 h.eyes)).setCell ⟨g9, 5, none⟩ (.int .i64 h.hLo)).setCell ⟨g9, 6, none⟩ (.int .i64 h.hHi)).setCell ⟨g9, 7, none⟩ (.slice h.la h.ln h.lcap)) = X11 at *
        refine hK _ _ (HS.out _ hB11) ?_
        clear hK K hB10 hs9_10 hb7_10 hb8_10
        (try simp only [Act.put, List.setIfInBounds_toArray, List.set_cons_zero, List.set_cons_succ])
        show Exit.then _ _ Exit.normal _ _
        go_wp2_with fail
        go_meet
        exact ⟨g7, g8, g9, rfl, rfl, rfl, hb7_11, hb8_11, hb9_11, ⟨by omega, by omega, by omega⟩, ⟨hg7, hg8, hg9⟩, hB11⟩
    · skip
      refine tr_step rfl (by rfl) (fun K hK => ?_)
      have hB12 := BA hB0 (.cells #[.slice none 0 0, .int .i64 0, .int .i64 0, .int .i64 0, .int .i64 0, .int .i64 0, .int .i64 0, .slice none 0 0] 29)
      have hs8_12 : Slots X0.heap.size 8 (X0.alloc (.cells #[.slice none 0 0, .int .i64 0, .int .i64 0, .int .i64 0, .int .i64 0, .int .i64 0, .int .i64 0, .slice none 0 0] 29)) := slots8 X0 _ _ 0 0 0 0 0 0 _
      have hg8 := hB0.size
      go_simp
      generalize X0.heap.size = g8 at *
      generalize X0.alloc (.cells #[.slice none 0 0, .int .i64 0, .int .i64 0, .int .i64 0, .int .i64 0, .int .i64 0, .int .i64 0, .slice none 0 0] 29) = X12 at *
      refine hK _ _ (HS.out _ hB12) ?_
      clear hK K hB0 
      (try simp only [Act.put, List.setIfInBounds_toArray, List.set_cons_zero, List.set_cons_succ])
      refine ⟨?_, ?_⟩
      · skip
        refine tr_step rfl (by rfl) (fun K hK => ?_)
        have hB13 := BA hB12 (.cells #[.slice none 0 0, .int .i64 0, .int .i64 0, .int .i64 0, .int .i64 0, .int .i64 0, .int .i64 0, .slice none 0 0] 29)
        have hs8_13 := hs8_12.below (newB X12 (.cells #[.slice none 0 0, .int .i64 0, .int .i64 0, .int .i64 0, .int .i64 0, .int .i64 0, .int .i64 0, .slice none 0 0] 29)) (lt8 hs8_12)
        have hl8_13 := lt8 hs8_12
        have hs7_13 : Slots X12.heap.size 8 (X12.alloc (.cells #[.slice none 0 0, .int .i64 0, .int .i64 0, .int .i64 0, .int .i64 0, .int .i64 0, .int .i64 0, .slice none 0 0] 29)) := slots8 X12 _ _ 0 0 0 0 0 0 _
        have hg7 := hB12.size
        go_simp
        generalize X12.heap.size = g7 at *
        generalize X12.alloc (.cells #[.slice none 0 0, .int .i64 0, .int .i64 0, .int .i64 0, .int .i64 0, .int .i64 0, .int .i64 0, .slice none 0 0] 29) = X13 at *
        refine hK _ _ (HS.out _ hB13) ?_
        clear hK K hB12 hs8_12
        (try simp only [Act.put, List.setIfInBounds_toArray, List.set_cons_zero, List.set_cons_succ])
        refine tr_step rfl (by rfl) (fun K hK => ?_)
        have hB14 := BA hB13 (.cells #[.slice none 0 0, .int .i64 0, .int .i64 0, .int .i64 0, .int .i64 0, .int .i64 0, .int .i64 0, .slice none 0 0] 29)
        have hs8_14 := hs8_13.below (newB X13 (.cells #[.slice none 0 0, .int .i64 0, .int .i64 0, .int .i64 0, .int .i64 0, .int .i64 0, .int .i64 0, .slice none 0 0] 29)) (lt8 hs8_13)
        have hl8_14 := lt8 hs8_13
        have hs7_14 := hs7_13.below (newB X13 (.cells #[.slice none 0 0, .int .i64 0, .int .i64 0, .int .i64 0, .int .i64 0, .int .i64 0, .int .i64 0, .slice none 0 0] 29)) (lt8 hs7_13)
        have hl7_14 := lt8 hs7_13
        have hs9_14 : Slots X13.heap.size 8 (X13.alloc (.cells #[.slice none 0 0, .int .i64 0, .int .i64 0, .int .i64 0, .int .i64 0, .int .i64 0, .int .i64 0, .slice none 0 0] 29)) := slots8 X13 _ _ 0 0 0 0 0 0 _
        have hg9 := hB13.size
        go_simp
        generalize X13.heap.size = g9 at *
        generalize X13.alloc (.cells #[.slice none 0 0, .int .i64 0, .int .i64 0, .int .i64 0, .int .i64 0, .int .i64 0, .int .i64 0, .slice none 0 0] 29) = X14 at *
        refine hK _ _ (HS.out _ hB14) ?_
        clear hK K hB13 hs8_13 hs7_13
        (try simp only [Act.put, List.setIfInBounds_toArray, List.set_cons_zero, List.set_cons_succ])
        refine tr_step rfl (by rfl) (fun K hK => ?_)
        obtain ⟨u0, q0, f0⟩ := hs7_14.get 0 (by omega)
        obtain ⟨u1, q1, f1⟩ := hs7_14.get 1 (by omega)
        obtain ⟨u2, q2, f2⟩ := hs7_14.get 2 (by omega)
        obtain ⟨u3, q3, f3⟩ := hs7_14.get 3 (by omega)
        obtain ⟨u4, q4, f4⟩ := hs7_14.get 4 (by omega)
        obtain ⟨u5, q5, f5⟩ := hs7_14.get 5 (by omega)
        obtain ⟨u6, q6, f6⟩ := hs7_14.get 6 (by omega)
        obtain ⟨u7, q7, f7⟩ := hs7_14.get 7 (by omega)
        have hB15 := (BC (BC (BC (BC (BC (BC (BC (BC hB14 g7 0 hg7 (.slice h.a h.n h.cap)) g7 1 hg7 (.int .i64 h.eLo)) g7 2 hg7 (.int .i64 h.eHi)) g7 3 hg7 (.int .i64 h.images)) g7 4 hg7 (.int .i64 h.eyes)) g7 5 hg7 (.int .i64 h.hLo)) g7 6 hg7 (.int .i64 h.hHi)) g7 7 hg7 (.slice h.la h.ln h.lcap))
        have hb7_15 := box_wput8 hs7_14 h
        have hbX := wput8_bx X14 g7 h
        unfold wput8 at hb7_15 hbX
        have hs8_15 := Slots.bx hs8_14 hbX (by omega)
        have hs9_15 := Slots.bx hs9_14 hbX (by omega)
        go_simp
        clear hbX q0 f0 q1 f1 q2 f2 q3 f3 q4 f4 q5 f5 q6 f6 q7 f7
        generalize ((((((((X14.setCell ⟨g7, 0, none⟩ (.slice h.a h.n h.cap)).setCell ⟨g7, 1, none⟩ (.int .i64 h.eLo)).setCell ⟨g7, 2, none⟩ (.int .i64 h.eHi)).setCell ⟨g7, 3, none⟩ (.int .i64 h.images)).setCell ⟨g7, 4, none⟩ (.int .i64 h.eyes)).setCell ⟨g7, 5, none⟩ (.int .i64 h.hLo)).setCell ⟨g7, 6, none⟩ (.int .i64 h.hHi)).setCell ⟨g7, 7, none⟩ (.slice h.la h.ln h.lcap)) = X15 at *
        refine hK _ _ (HS.out _ hB15) ?_
        clear hK K hB14 hs7_14 hs8_14 hs9_14
        (try simp only [Act.put, List.setIfInBounds_toArray, List.set_cons_zero, List.set_cons_succ])
        refine tr_step rfl (by rfl) (fun K hK => ?_)
        obtain ⟨u0, q0, f0⟩ := hs8_15.get 0 (by omega)
        obtain ⟨u1, q1, f1⟩ := hs8_15.get 1 (by omega)
        obtain ⟨u2, q2, f2⟩ := hs8_15.get 2 (by omega)
        obtain ⟨u3, q3, f3⟩ := hs8_15.get 3 (by omega)
        obtain ⟨u4, q4, f4⟩ := hs8_15.get 4 (by omega)
        obtain ⟨u5, q5, f5⟩ := hs8_15.get 5 (by omega)
        obtain ⟨u6, q6, f6⟩ := hs8_15.get 6 (by omega)
        obtain ⟨u7, q7, f7⟩ := hs8_15.get 7 (by omega)
        have hB16 := (BC (BC (BC (BC (BC (BC (BC (BC hB15 g8 0 hg8 (.slice h.a h.n h.cap)) g8 1 hg8 (.int .i64 h.eLo)) g8 2 hg8 (.int .i64 h.eHi)) g8 3 hg8 (.int .i64 h.images)) g8 4 hg8 (.int .i64 h.eyes)) g8 5 hg8 (.int .i64 h.hLo)) g8 6 hg8 (.int .i64 h.hHi)) g8 7 hg8 (.slice h.la h.ln h.lcap))
        have hb8_16 := box_wput8 hs8_15 h
        have hbX := wput8_bx X15 g8 h
        unfold wput8 at hb8_16 hbX
        have hb7_16 := Box8.bx hb7_15 hbX (by omega)
        have hs9_16 := Slots.bx hs9_15 hbX (by omega)
        go_simp
        clear hbX q0 f0 q1 f1 q2 f2 q3 f3 q4 f4 q5 f5 q6 f6 q7 f7
        generalize ((((((((X15.setCell ⟨g8, 0, none⟩ (.slice h.a h.n h.cap)).setCell ⟨g8, 1, none⟩ (.int .i64 h.eLo)).setCell ⟨g8, 2, none⟩ (.int .i64 h.eHi)).setCell ⟨g8, 3, none⟩ (.int .i64 h.images)).setCell ⟨g8, 4, none⟩ (.int .i64 h.eyes)).setCell ⟨g8, 5, none⟩ (.int .i64 h.hLo)).setCell ⟨g8, 6, none⟩ (.int .i64 h.hHi)).setCell ⟨g8, 7, none⟩ (.slice h.la h.ln h.lcap)) = X16 at *
        refine hK _ _ (HS.out _ hB16) ?_
        clear hK K hB15 hs8_15 hb7_15 hs9_15
        (try simp only [Act.put, List.setIfInBounds_toArray, List.set_cons_zero, List.set_cons_succ])
        refine tr_step rfl (by rfl) (fun K hK => ?_)
        obtain ⟨u0, q0, f0⟩ := hs9_16.get 0 (by omega)
        obtain ⟨u1, q1, f1⟩ := hs9_16.get 1 (by omega)
        obtain ⟨u2, q2, f2⟩ := hs9_16.get 2 (by omega)
        obtain ⟨u3, q3, f3⟩ := hs9_16.get 3 (by omega)
        obtain ⟨u4, q4, f4⟩ := hs9_16.get 4 (by omega)
        obtain ⟨u5, q5, f5⟩ := hs9_16.get 5 (by omega)
        obtain ⟨u6, q6, f6⟩ := hs9_16.get 6 (by omega)
        obtain ⟨u7, q7, f7⟩ := hs9_16.get 7 (by omega)
        have hB17 := (BC (BC (BC (BC (BC (BC (BC (BC hB16 g9 0 hg9 (.slice h.a h.n h.cap)) g9 1 hg9 (.int .i64 h.eLo)) g9 2 hg9 (.int .i64 h.eHi)) g9 3 hg9 (.int .i64 h.images)) g9 4 hg9 (.int .i64 h.eyes)) g9 5 hg9 (.int .i64 h.hLo)) g9 6 hg9 (.int .i64 h.hHi)) g9 7 hg9 (.slice h.la h.ln h.lcap))
        have hb9_17 := box_wput8 hs9_16 h
        have hbX := wput8_bx X16 g9 h
        unfold wput8 at hb9_17 hbX
        have hb8_17 := Box8.bx hb8_16 hbX (by omega)
        have hb7_17 := Box8.bx hb7_16 hbX (by omega)
        go_simp
        clear hbX q0 f0 q1 f1 q2 f2 q3 f3 q4 f4 q5 f5 q6 f6 q7 f7
        generalize ((((((((X16.setCell ⟨g9, 0, none⟩ (.slice h.a h.n h.cap)).setCell ⟨g9, 1, none⟩ (.int .i64 h.eLo)).setCell ⟨g9, 2, none⟩ (.int .i64 h.eHi)).setCell ⟨g9, 3, none⟩ (.int .i64 h.images)).setCell ⟨g9, 4, none⟩ (.int .i64 h.eyes)).setCell ⟨g9, 5, none⟩ (.int .i64 h.hLo)).setCell ⟨g9, 6, none⟩ (.int .i64 h.hHi)).setCell ⟨g9, 7, none⟩ (.slice h.la h.ln h.lcap)) = X17 at *
        refine hK _ _ (HS.out _ hB17) ?_
        clear hK K hB16 hs9_16 hb8_16 hb7_16
        (try simp only [Act.put, List.setIfInBounds_toArray, List.set_cons_zero, List.set_cons_succ])
        show Exit.then _ _ Exit.normal _ _
        go_wp2_with fail
        go_meet
        exact ⟨g7, g8, g9, rfl, rfl, rfl, hb7_17, hb8_17, hb9_17, ⟨by omega, by omega, by omega⟩, ⟨hg7, hg8, hg9⟩, hB17⟩
      · skip
        refine tr_step rfl (by rfl) (fun K hK => ?_)
        have hB18 := BA hB12 (.cells #[.slice none 0 0, .int .i64 0, .int .i64 0, .int .i64 0, .int .i64 0, .int .i64 0, .int .i64 0, .slice none 0 0] 29)
        have hs8_18 := hs8_12.below (newB X12 (.cells #[.slice none 0 0, .int .i64 0, .int .i64 0, .int .i64 0, .int .i64 0, .int .i64 0, .int .i64 0, .slice none 0 0] 29)) (lt8 hs8_12)
        have hl8_18 := lt8 hs8_12
        have hs9_18 : Slots X12.heap.size 8 (X12.alloc (.cells #[.slice none 0 0, .int .i64 0, .int .i64 0, .int .i64 0, .int .i64 0, .int .i64 0, .int .i64 0, .slice none 0 0] 29)) := slots8 X12 _ _ 0 0 0 0 0 0 _
        have hg9 := hB12.size
        go_simp
        generalize X12.heap.size = g9 at *
        generalize X12.alloc (.cells #[.slice none 0 0, .int .i64 0, .int .i64 0, .int .i64 0, .int .i64 0, .int .i64 0, .int .i64 0, .slice none 0 0] 29) = X18 at *
        refine hK _ _ (HS.out _ hB18) ?_
        clear hK K hB12 hs8_12
        (try simp only [Act.put, List.setIfInBounds_toArray, List.set_cons_zero, List.set_cons_succ])
        refine tr_step rfl (by rfl) (fun K hK => ?_)
        have hB19 := BA hB18 (.cells #[.slice none 0 0, .int .i64 0, .int .i64 0, .int .i64 0, .int .i64 0, .int .i64 0, .int .i64 0, .slice none 0 0] 29)
        have hs8_19 := hs8_18.below (newB X18 (.cells #[.slice none 0 0, .int .i64 0, .int .i64 0, .int .i64 0, .int .i64 0, .int .i64 0, .int .i64 0, .slice none 0 0] 29)) (lt8 hs8_18)
        have hl8_19 := lt8 hs8_18
        have hs9_19 := hs9_18.below (newB X18 (.cells #[.slice none 0 0, .int .i64 0, .int .i64 0, .int .i64 0, .int .i64 0, .int .i64 0, .int .i64 0, .slice none 0 0] 29)) (lt8 hs9_18)
        have hl9_19 := lt8 hs9_18
        have hs7_19 : Slots X18.heap.size 8 (X18.alloc (.cells #[.slice none 0 0, .int .i64 0, .int .i64 0, .int .i64 0, .int .i64 0, .int .i64 0, .int .i64 0, .slice none 0 0] 29)) := slots8 X18 _ _ 0 0 0 0 0 0 _
        have hg7 := hB18.size
        go_simp
        generalize X18.heap.size = g7 at *
        generalize X18.alloc (.cells #[.slice none 0 0, .int .i64 0, .int .i64 0, .int .i64 0, .int .i64 0, .int .i64 0, .int .i64 0, .slice none 0 0] 29) = X19 at *
        refine hK _ _ (HS.out _ hB19) ?_
        clear hK K hB18 hs8_18 hs9_18
        (try simp only [Act.put, List.setIfInBounds_toArray, List.set_cons_zero, List.set_cons_succ])
        refine tr_step rfl (by rfl) (fun K hK => ?_)
        obtain ⟨u0, q0, f0⟩ := hs7_19.get 0 (by omega)
        obtain ⟨u1, q1, f1⟩ := hs7_19.get 1 (by omega)
        obtain ⟨u2, q2, f2⟩ := hs7_19.get 2 (by omega)
        obtain ⟨u3, q3, f3⟩ := hs7_19.get 3 (by omega)
        obtain ⟨u4, q4, f4⟩ := hs7_19.get 4 (by omega)
        obtain ⟨u5, q5, f5⟩ := hs7_19.get 5 (by omega)
        obtain ⟨u6, q6, f6⟩ := hs7_19.get 6 (by omega)
        obtain ⟨u7, q7, f7⟩ := hs7_19.get 7 (by omega)
        have hB20 := (BC (BC (BC (BC (BC (BC (BC (BC hB19 g7 0 hg7 (.slice h.a h.n h.cap)) g7 1 hg7 (.int .i64 h.eLo)) g7 2 hg7 (.int .i64 h.eHi)) g7 3 hg7 (.int .i64 h.images)) g7 4 hg7 (.int .i64 h.eyes)) g7 5 hg7 (.int .i64 h.hLo)) g7 6 hg7 (.int .i64 h.hHi)) g7 7 hg7 (.slice h.la h.ln h.lcap))
        have hb7_20 := box_wput8 hs7_19 h
        have hbX := wput8_bx X19 g7 h
        unfold wput8 at hb7_20 hbX
        have hs8_20 := Slots.bx hs8_19 hbX (by omega)
        have hs9_20 := Slots.bx hs9_19 hbX (by omega)
        go_simp
        clear hbX q0 f0 q1 f1 q2 f2 q3 f3 q4 f4 q5 f5 q6 f6 q7 f7
        generalize ((((((((X19.setCell ⟨g7, 0, none⟩ (.slice h.a h.n h.cap)).setCell ⟨g7, 1, none⟩ (.int .i64 h.eLo)).setCell ⟨g7, 2, none⟩ (.int .i64 h.eHi)).setCell ⟨g7, 3, none⟩ (.int .i64 h.images)).setCell ⟨g7, 4, none⟩ (.int .i64 h.eyes)).setCell ⟨g7, 5, none⟩ (.int .i64 h.hLo)).setCell ⟨g7, 6, none⟩ (.int .i64 h.hHi)).setCell ⟨g7, 7, none⟩ (.slice h.la h.ln h.lcap)) = X20 at *
        refine hK _ _ (HS.out _ hB20) ?_
        clear hK K hB19 hs7_19 hs8_19 hs9_19
        (try simp only [Act.put, List.setIfInBounds_toArray, List.set_cons_zero, List.set_cons_succ])
        refine tr_step rfl (by rfl) (fun K hK => ?_)
        obtain ⟨u0, q0, f0⟩ := hs8_20.get 0 (by omega)
        obtain ⟨u1, q1, f1⟩ := hs8_20.get 1 (by omega)
        obtain ⟨u2, q2, f2⟩ := hs8_20.get 2 (by omega)
        obtain ⟨u3, q3, f3⟩ := hs8_20.get 3 (by omega)
        obtain ⟨u4, q4, f4⟩ := hs8_20.get 4 (by omega)
        obtain ⟨u5, q5, f5⟩ := hs8_20.get 5 (by omega)
        obtain ⟨u6, q6, f6⟩ := hs8_20.get 6 (by omega)
        obtain ⟨u7, q7, f7⟩ := hs8_20.get 7 (by omega)
        have hB21 := (BC (BC (BC (BC (BC (BC (BC (BC hB20 g8 0 hg8 (.slice h.a h.n h.cap)) g8 1 hg8 (.int .i64 h.eLo)) g8 2 hg8 (.int .i64 h.eHi)) g8 3 hg8 (.int .i64 h.images)) g8 4 hg8 (.int .i64 h.eyes)) g8 5 hg8 (.int .i64 h.hLo)) g8 6 hg8 (.int .i64 h.hHi)) g8 7 hg8 (.slice h.la h.ln h.lcap))
        have hb8_21 := box_wput8 hs8_20 h
        have hbX := wput8_bx X20 g8 h
        unfold wput8 at hb8_21 hbX
        have hs9_21 := Slots.bx hs9_20 hbX (by omega)
        have hb7_21 := Box8.bx hb7_20 hbX (by omega)
        go_simp
        clear hbX q0 f0 q1 f1 q2 f2 q3 f3 q4 f4 q5 f5 q6 f6 q7 f7
        generalize ((((((((X20.setCell ⟨g8, 0, none⟩ (.slice h.a h.n h.cap)).setCell ⟨g8, 1, none⟩ (.int .i64 h.eLo)).setCell ⟨g8, 2, none⟩ (.int .i64 h.eHi)).setCell ⟨g8, 3, none⟩ (.int .i64 h.images)).setCell ⟨g8, 4, none⟩ (.int .i64 h.eyes)).setCell ⟨g8, 5, none⟩ (.int .i64 h.hLo)).setCell ⟨g8, 6, none⟩ (.int .i64 h.hHi)).setCell ⟨g8, 7, none⟩ (.slice h.la h.ln h.lcap)) = X21 at *
        refine hK _ _ (HS.out _ hB21) ?_
        clear hK K hB20 hs8_20 hs9_20 hb7_20
        (try simp only [Act.put, List.setIfInBounds_toArray, List.set_cons_zero, List.set_cons_succ])
        refine tr_step rfl (by rfl) (fun K hK => ?_)
        obtain ⟨u0, q0, f0⟩ := hs9_21.get 0 (by omega)
        obtain ⟨u1, q1, f1⟩ := hs9_21.get 1 (by omega)
        obtain ⟨u2, q2, f2⟩ := hs9_21.get 2 (by omega)
        obtain ⟨u3, q3, f3⟩ := hs9_21.get 3 (by omega)
        obtain ⟨u4, q4, f4⟩ := hs9_21.get 4 (by omega)
        obtain ⟨u5, q5, f5⟩ := hs9_21.get 5 (by omega)
        obtain ⟨u6, q6, f6⟩ := hs9_21.get 6 (by omega)
        obtain ⟨u7, q7, f7⟩ := hs9_21.get 7 (by omega)
        have hB22 := (BC (BC (BC (BC (BC (BC (BC (BC hB21 g9 0 hg9 (.slice h.a h.n h.cap)) g9 1 hg9 (.int .i64 h.eLo)) g9 2 hg9 (.int .i64 h.eHi)) g9 3 hg9 (.int .i64 h.images)) g9 4 hg9 (.int .i64 h.eyes)) g9 5 hg9 (.int .i64 h.hLo)) g9 6 hg9 (.int .i64 h.hHi)) g9 7 hg9 (.slice h.la h.ln h.lcap))
        have hb9_22 := box_wput8 hs9_21 h
        have hbX := wput8_bx X21 g9 h
        unfold wput8 at hb9_22 hbX
        have hb8_22 := Box8.bx hb8_21 hbX (by omega)
        have hb7_22 := Box8.bx hb7_21 hbX (by omega)
        go_simp
        clear hbX q0 f0 q1 f1 q2 f2 q3 f3 q4 f4 q5 f5 q6 f6 q7 f7
        generalize ((((((((X21.setCell ⟨g9, 0, none⟩ (.slice h.a h.n h.cap)).setCell ⟨g9, 1, none⟩ (.int .i64 h.eLo)).setCell ⟨g9, 2, none⟩ (.int .i64 h.eHi)).setCell ⟨g9, 3, none⟩ (.int .i64 h.images)).setCell ⟨g9, 4, none⟩ (.int .i64 h.eyes)).setCell ⟨g9, 5, none⟩ (.int .i64 h.hLo)).setCell ⟨g9, 6, none⟩ (.int .i64 h.hHi)).setCell ⟨g9, 7, none⟩ (.slice h.la h.ln h.lcap)) = X22 at *
        refine hK _ _ (HS.out _ hB22) ?_
        clear hK K hB21 hs9_21 hb8_21 hb7_21
        (try simp only [Act.put, List.setIfInBounds_toArray, List.set_cons_zero, List.set_cons_succ])
        show Exit.then _ _ Exit.normal _ _
        go_wp2_with fail
        go_meet
        exact ⟨g7, g8, g9, rfl, rfl, rfl, hb7_22, hb8_22, hb9_22, ⟨by omega, by omega, by omega⟩, ⟨hg7, hg8, hg9⟩, hB22⟩
    · skip
      refine tr_step rfl (by rfl) (fun K hK => ?_)
      have hB23 := BA hB0 (.cells #[.slice none 0 0, .int .i64 0, .int .i64 0, .int .i64 0, .int .i64 0, .int .i64 0, .int .i64 0, .slice none 0 0] 29)
      have hs9_23 : Slots X0.heap.size 8 (X0.alloc (.cells #[.slice none 0 0, .int .i64 0, .int .i64 0, .int .i64 0, .int .i64 0, .int .i64 0, .int .i64 0, .slice none 0 0] 29)) := slots8 X0 _ _ 0 0 0 0 0 0 _
      have hg9 := hB0.size
      go_simp
      generalize X0.heap.size = g9 at *
      generalize X0.alloc (.cells #[.slice none 0 0, .int .i64 0, .int .i64 0, .int .i64 0, .int .i64 0, .int .i64 0, .int .i64 0, .slice none 0 0] 29) = X23 at *
      refine hK _ _ (HS.out _ hB23) ?_
      clear hK K hB0 
      (try simp only [Act.put, List.setIfInBounds_toArray, List.set_cons_zero, List.set_cons_succ])
      refine ⟨?_, ?_⟩
      · skip
        refine tr_step rfl (by rfl) (fun K hK => ?_)
        have hB24 := BA hB23 (.cells #[.slice none 0 0, .int .i64 0, .int .i64 0, .int .i64 0, .int .i64 0, .int .i64 0, .int .i64 0, .slice none 0 0] 29)
        have hs9_24 := hs9_23.below (newB X23 (.cells #[.slice none 0 0, .int .i64 0, .int .i64 0, .int .i64 0, .int .i64 0, .int .i64 0, .int .i64 0, .slice none 0 0] 29)) (lt8 hs9_23)
        have hl9_24 := lt8 hs9_23
        have hs7_24 : Slots X23.heap.size 8 (X23.alloc (.cells #[.slice none 0 0, .int .i64 0, .int .i64 0, .int .i64 0, .int .i64 0, .int .i64 0, .int .i64 0, .slice none 0 0] 29)) := slots8 X23 _ _ 0 0 0 0 0 0 _
        have hg7 := hB23.size
        go_simp
        generalize X23.heap.size = g7 at *
        generalize X23.alloc (.cells #[.slice none 0 0, .int .i64 0, .int .i64 0, .int .i64 0, .int .i64 0, .int .i64 0, .int .i64 0, .slice none 0 0] 29) = X24 at *
        refine hK _ _ (HS.out _ hB24) ?_
        clear hK K hB23 hs9_23
        (try simp only [Act.put, List.setIfInBounds_toArray, List.set_cons_zero, List.set_cons_succ])
        refine tr_step rfl (by rfl) (fun K hK => ?_)
        have hB25 := BA hB24 (.cells #[.slice none 0 0, .int .i64 0, .int .i64 0, .int .i64 0, .int .i64 0, .int .i64 0, .int .i64 0, .slice none 0 0] 29)
        have hs9_25 := hs9_24.below (newB X24 (.cells #[.slice none 0 0, .int .i64 0, .int .i64 0, .int .i64 0, .int .i64 0, .int .i64 0, .int .i64 0, .slice none 0 0] 29)) (lt8 hs9_24)
        have hl9_25 := lt8 hs9_24
        have hs7_25 := hs7_24.below (newB X24 (.cells #[.slice none 0 0, .int .i64 0, .int .i64 0, .int .i64 0, .int .i64 0, .int .i64 0, .int .i64 0, .slice none 0 0] 29)) (lt8 hs7_24)
        have hl7_25 := lt8 hs7_24
        have hs8_25 : Slots X24.heap.size 8 (X24.alloc (.cells #[.slice none 0 0, .int .i64 0, .int .i64 0, .int .i64 0, .int .i64 0, .int .i64 0, .int .i64 0, .slice none 0 0] 29)) := slots8 X24 _ _ 0 0 0 0 0 0 _
        have hg8 := hB24.size
        go_simp
        generalize X24.heap.size = g8 at *
        generalize X24.alloc (.cells #[.slice none 0 0, .int .i64 0, .int .i64 0, .int .i64 0, .int .i64 0, .int .i64 0, .int .i64 0, .slice none 0 0] 29) = X25 at *
        refine hK _ _ (HS.out _ hB25) ?_
        clear hK K hB24 hs9_24 hs7_24
        (try simp only [Act.put, List.setIfInBounds_toArray, List.set_cons_zero, List.set_cons_succ])
        refine tr_step rfl (by rfl) (fun K hK => ?_)
        obtain ⟨u0, q0, f0⟩ := hs7_25.get 0 (by omega)
        obtain ⟨u1, q1, f1⟩ := hs7_25.get 1 (by omega)
        obtain ⟨u2, q2, f2⟩ := hs7_25.get 2 (by omega)
        obtain ⟨u3, q3, f3⟩ := hs7_25.get 3 (by omega)
        obtain ⟨u4, q4, f4⟩ := hs7_25.get 4 (by omega)
        obtain ⟨u5, q5, f5⟩ := hs7_25.get 5 (by omega)
        obtain ⟨u6, q6, f6⟩ := hs7_25.get 6 (by omega)
        obtain ⟨u7, q7, f7⟩ := hs7_25.get 7 (by omega)
        have hB26 := (BC (BC (BC (BC (BC (BC (BC (BC hB25 g7 0 hg7 (.slice h.a h.n h.cap)) g7 1 hg7 (.int .i64 h.eLo)) g7 2 hg7 (.int .i64 h.eHi)) g7 3 hg7 (.int .i64 h.images)) g7 4 hg7 (.int .i64 h.eyes)) g7 5 hg7 (.int .i64 h.hLo)) g7 6 hg7 (.int .i64 h.hHi)) g7 7 hg7 (.slice h.la h.ln h.lcap))
        have hb7_26 := box_wput8 hs7_25 h
        have hbX := wput8_bx X25 g7 h
        unfold wput8 at hb7_26 hbX
        have hs9_26 := Slots.bx hs9_25 hbX (by omega)
        have hs8_26 := Slots.bx hs8_25 hbX (by omega)
        go_simp
        clear hbX q0 f0 q1 f1 q2 f2 q3 f3 q4 f4 q5 f5 q6 f6 q7 f7
        generalize ((((((((X25.setCell ⟨g7, 0, none⟩ (.slice h.a h.n h.cap)).setCell ⟨g7, 1, none⟩ (.int .i64 h.eLo)).setCell ⟨g7, 2, none⟩ (.int .i64 h.eHi)).setCell ⟨g7, 3, none⟩ (.int .i64 h.images)).setCell ⟨g7, 4, none⟩ (.int .i64 h.eyes)).setCell ⟨g7, 5, none⟩ (.int .i64 h.hLo)).setCell ⟨g7, 6, none⟩ (.int .i64 h.hHi)).setCell ⟨g7, 7, none⟩ (.slice h.la h.ln h.lcap)) = X26 at *
        refine hK _ _ (HS.out _ hB26) ?_
        clear hK K hB25 hs7_25 hs9_25 hs8_25
        (try simp only [Act.put, List.setIfInBounds_toArray, List.set_cons_zero, List.set_cons_succ])
        refine tr_step rfl (by rfl) (fun K hK => ?_)
        obtain ⟨u0, q0, f0⟩ := hs8_26.get 0 (by omega)
        obtain ⟨u1, q1, f1⟩ := hs8_26.get 1 (by omega)
        obtain ⟨u2, q2, f2⟩ := hs8_26.get 2 (by omega)
        obtain ⟨u3, q3, f3⟩ := hs8_26.get 3 (by omega)
        obtain ⟨u4, q4, f4⟩ := hs8_26.get 4 (by omega)
        obtain ⟨u5, q5, f5⟩ := hs8_26.get 5 (by omega)
        obtain ⟨u6, q6, f6⟩ := hs8_26.get 6 (by omega)
        obtain ⟨u7, q7, f7⟩ := hs8_26.get 7 (by omega)
        have hB27 := (BC (BC (BC (BC (BC (BC (BC (BC hB26 g8 0 hg8 (.slice h.a h.n h.cap)) g8 1 hg8 (.int .i64 h.eLo)) g8 2 hg8 (.int .i64 h.eHi)) g8 3 hg8 (.int .i64 h.images)) g8 4 hg8 (.int .i64 h.eyes)) g8 5 hg8 (.int .i64 h.hLo)) g8 6 hg8 (.int .i64 h.hHi)) g8 7 hg8 (.slice h.la h.ln h.lcap))
        have hb8_27 := box_wput8 hs8_26 h
        have hbX := wput8_bx X26 g8 h
        unfold wput8 at hb8_27 hbX
        have hs9_27 := Slots.bx hs9_26 hbX (by omega)
        have hb7_27 := Box8.bx hb7_26 hbX (by omega)
        go_simp
        clear hbX q0 f0 q1 f1 q2 f2 q3 f3 q4 f4 q5 f5 q6 f6 q7 f7
        generalize ((((((((X26.setCell ⟨g8, 0, none⟩ (.slice h.a h.n h.cap)).setCell ⟨g8, 1, none⟩ (.int .i64 h.eLo)).setCell ⟨g8, 2, none⟩ (.int .i64 h.eHi)).setCell ⟨g8, 3, none⟩ (.int .i64 h.images)).setCell ⟨g8, 4, none⟩ (.int .i64 h.eyes)).setCell ⟨g8, 5, none⟩ (.int .i64 h.hLo)).setCell ⟨g8, 6, none⟩ (.int .i64 h.hHi)).setCell ⟨g8, 7, none⟩ (.slice h.la h.ln h.lcap)) = X27 at *
        refine hK _ _ (HS.out _ hB27) ?_
        clear hK K hB26 hs8_26 hs9_26 hb7_26
        (try simp only [Act.put, List.setIfInBounds_toArray, List.set_cons_zero, List.set_cons_succ])
        refine tr_step rfl (by rfl) (fun K hK => ?_)
        obtain ⟨u0, q0, f0⟩ := hs9_27.get 0 (by omega)
        obtain ⟨u1, q1, f1⟩ := hs9_27.get 1 (by omega)
        obtain ⟨u2, q2, f2⟩ := hs9_27.get 2 (by omega)
        obtain ⟨u3, q3, f3⟩ := hs9_27.get 3 (by omega)
        obtain ⟨u4, q4, f4⟩ := hs9_27.get 4 (by omega)
        obtain ⟨u5, q5, f5⟩ := hs9_27.get 5 (by omega)
        obtain ⟨u6, q6, f6⟩ := hs9_27.get 6 (by omega)
        obtain ⟨u7, q7, f7⟩ := hs9_27.get 7 (by omega)
        have hB28 := (BC (BC (BC (BC (BC (BC (BC (BC hB27 g9 0 hg9 (.slice h.a h.n h.cap)) g9 1 hg9 (.int .i64 h.eLo)) g9 2 hg9 (.int .i64 h.eHi)) g9 3 hg9 (.int .i64 h.images)) g9 4 hg9 (.int .i64 h.eyes)) g9 5 hg9 (.int .i64 h.hLo)) g9 6 hg9 (.int .i64 h.hHi)) g9 7 hg9 (.slice h.la h.ln h.lcap))
        have hb9_28 := box_wput8 hs9_27 h
        have hbX := wput8_bx X27 g9 h
        unfold wput8 at hb9_28 hbX
        have hb7_28 := Box8.bx hb7_27 hbX (by omega)
        have hb8_28 := Box8.bx hb8_27 hbX (by omega)
        go_simp
        clear hbX q0 f0 q1 f1 q2 f2 q3 f3 q4 f4 q5 f5 q6 f6 q7 f7
        generalize ((((((((X27.setCell ⟨g9, 0, none⟩ (.slice h.a h.n h.cap)).setCell ⟨g9, 1, none⟩ (.int .i64 h.eLo)).setCell ⟨g9, 2, none⟩ (.int .i64 h.eHi)).setCell ⟨g9, 3, none⟩ (.int .i64 h.images)).setCell ⟨g9, 4, none⟩ (.int .i64 h.eyes)).setCell ⟨g9, 5, none⟩ (.int .i64 h.hLo)).setCell ⟨g9, 6, none⟩ (.int .i64 h.hHi)).setCell ⟨g9, 7, none⟩ (.slice h.la h.ln h.lcap)) = X28 at *
        refine hK _ _ (HS.out _ hB28) ?_
        clear hK K hB27 hs9_27 hb7_27 hb8_27
        (try simp only [Act.put, List.setIfInBounds_toArray, List.set_cons_zero, List.set_cons_succ])
        show Exit.then _ _ Exit.normal _ _
        go_wp2_with fail
        go_meet
        exact ⟨g7, g8, g9, rfl, rfl, rfl, hb7_28, hb8_28, hb9_28, ⟨by omega, by omega, by omega⟩, ⟨hg7, hg8, hg9⟩, hB28⟩
      · skip
        refine tr_step rfl (by rfl) (fun K hK => ?_)
        have hB29 := BA hB23 (.cells #[.slice none 0 0, .int .i64 0, .int .i64 0, .int .i64 0, .int .i64 0, .int .i64 0, .int .i64 0, .slice none 0 0] 29)
        have hs9_29 := hs9_23.below (newB X23 (.cells #[.slice none 0 0, .int .i64 0, .int .i64 0, .int .i64 0, .int .i64 0, .int .i64 0, .int .i64 0, .slice none 0 0] 29)) (lt8 hs9_23)
        have hl9_29 := lt8 hs9_23
        have hs8_29 : Slots X23.heap.size 8 (X23.alloc (.cells #[.slice none 0 0, .int .i64 0, .int .i64 0, .int .i64 0, .int .i64 0, .int .i64 0, .int .i64 0, .slice none 0 0] 29)) := slots8 X23 _ _ 0 0 0 0 0 0 _
        have hg8 := hB23.size
        go_simp
        generalize X23.heap.size = g8 at *
        generalize X23.alloc (.cells #[.slice none 0 0, .int .i64 0, .int .i64 0, .int .i64 0, .int .i64 0, .int .i64 0, .int .i64 0, .slice none 0 0] 29) = X29 at *
        refine hK _ _ (HS.out _ hB29) ?_
        clear hK K hB23 hs9_23
        (try simp only [Act.put, List.setIfInBounds_toArray, List.set_cons_zero, List.set_cons_succ])
        refine tr_step rfl (by rfl) (fun K hK => ?_)
        have hB30 := BA hB29 (.cells #[.slice none 0 0, .int .i64 0, .int .i64 0, .int .i64 0, .int .i64 0, .int .i64 0, .int .i64 0, .slice none 0 0] 29)
        have hs9_30 := hs9_29.below (newB X29 (.cells #[.slice none 0 0, .int .i64 0, .int .i64 0, .int .i64 0, .int .i64 0, .int .i64 0, .int .i64 0, .slice none 0 0] 29)) (lt8 hs9_29)
        have hl9_30 := lt8 hs9_29
        have hs8_30 := hs8_29.below (newB X29 (.cells #[.slice none 0 0, .int .i64 0, .int .i64 0, .int .i64 0, .int .i64 0, .int .i64 0, .int .i64 0, .slice none 0 0] 29)) (lt8 hs8_29)
        have hl8_30 := lt8 hs8_29
        have hs7_30 : Slots X29.heap.size 8 (X29.alloc (.cells #[.slice none 0 0, .int .i64 0, .int .i64 0, .int .i64 0, .int .i64 0, .int .i64 0, .int .i64 0, .slice none 0 0] 29)) := slots8 X29 _ _ 0 0 0 0 0 0 _
        have hg7 := hB29.size
        go_simp
        generalize X29.heap.size = g7 at *
        generalize X29.alloc (.cells #[.slice none 0 0, .int .i64 0, .int .i64 0, .int .i64 0, .int .i64 0, .int .i64 0, .int .i64 0, .slice none 0 0] 29) = X30 at *
        refine hK _ _ (HS.out _ hB30) ?_
        clear hK K hB29 hs9_29 hs8_29
        (try simp only [Act.put, List.setIfInBounds_toArray, List.set_cons_zero, List.set_cons_succ])
        refine tr_step rfl (by rfl) (fun K hK => ?_)
        obtain ⟨u0, q0, f0⟩ := hs7_30.get 0 (by omega)
        obtain ⟨u1, q1, f1⟩ := hs7_30.get 1 (by omega)
        obtain ⟨u2, q2, f2⟩ := hs7_30.get 2 (by omega)
        obtain ⟨u3, q3, f3⟩ := hs7_30.get 3 (by omega)
        obtain ⟨u4, q4, f4⟩ := hs7_30.get 4 (by omega)
        obtain ⟨u5, q5, f5⟩ := hs7_30.get 5 (by omega)
        obtain ⟨u6, q6, f6⟩ := hs7_30.get 6 (by omega)
        obtain ⟨u7, q7, f7⟩ := hs7_30.get 7 (by omega)
        have hB31 := (BC (BC (BC (BC (BC (BC (BC (BC hB30 g7 0 hg7 (.slice h.a h.n h.cap)) g7 1 hg7 (.int .i64 h.eLo)) g7 2 hg7 (.int .i64 h.eHi)) g7 3 hg7 (.int .i64 h.images)) g7 4 hg7 (.int .i64 h.eyes)) g7 5 hg7 (.int .i64 h.hLo)) g7 6 hg7 (.int .i64 h.hHi)) g7 7 hg7 (.slice h.la h.ln h.lcap))
        have hb7_31 := box_wput8 hs7_30 h
        have hbX := wput8_bx X30 g7 h
        unfold wput8 at hb7_31 hbX
        have hs9_31 := Slots.bx hs9_30 hbX (by omega)
        have hs8_31 := Slots.bx hs8_30 hbX (by omega)
        go_simp
        clear hbX q0 f0 q1 f1 q2 f2 q3 f3 q4 f4 q5 f5 q6 f6 q7 f7
        generalize ((((((((X30.setCell ⟨g7, 0, none⟩ (.slice h.a h.n h.cap)).setCell ⟨g7, 1, none⟩ (.int .i64 h.eLo)).setCell ⟨g7, 2, none⟩ (.int .i64 h.eHi)).setCell ⟨g7, 3, none⟩ (.int .i64 h.images)).setCell ⟨g7, 4, none⟩ (.int .i64 h.eyes)).setCell ⟨g7, 5, none⟩ (.int .i64 h.hLo)).setCell ⟨g7, 6, none⟩ (.int .i64 h.hHi)).setCell ⟨g7, 7, none⟩ (.slice h.la h.ln h.lcap)) = X31 at *
        refine hK _ _ (HS.out _ hB31) ?_
        clear hK K hB30 hs7_30 hs9_30 hs8_30
        (try simp only [Act.put, List.setIfInBounds_toArray, List.set_cons_zero, List.set_cons_succ])
        refine tr_step rfl (by rfl) (fun K hK => ?_)
        obtain ⟨u0, q0, f0⟩ := hs8_31.get 0 (by omega)
        obtain ⟨u1, q1, f1⟩ := hs8_31.get 1 (by omega)
        obtain ⟨u2, q2, f2⟩ := hs8_31.get 2 (by omega)
        obtain ⟨u3, q3, f3⟩ := hs8_31.get 3 (by omega)
        obtain ⟨u4, q4, f4⟩ := hs8_31.get 4 (by omega)
        obtain ⟨u5, q5, f5⟩ := hs8_31.get 5 (by omega)
        obtain ⟨u6, q6, f6⟩ := hs8_31.get 6 (by omega)
        obtain ⟨u7, q7, f7⟩ := hs8_31.get 7 (by omega)
        have hB32 := (BC (BC (BC (BC (BC (BC (BC (BC hB31 g8 0 hg8 (.slice h.a h.n h.cap)) g8 1 hg8 (.int .i64 h.eLo)) g8 2 hg8 (.int .i64 h.eHi)) g8 3 hg8 (.int .i64 h.images)) g8 4 hg8 (.int .i64 h.eyes)) g8 5 hg8 (.int .i64 h.hLo)) g8 6 hg8 (.int .i64 h.hHi)) g8 7 hg8 (.slice h.la h.ln h.lcap))
        have hb8_32 := box_wput8 hs8_31 h
        have hbX := wput8_bx X31 g8 h
        unfold wput8 at hb8_32 hbX
        have hs9_32 := Slots.bx hs9_31 hbX (by omega)
        have hb7_32 := Box8.bx hb7_31 hbX (by omega)
        go_simp
        clear hbX q0 f0 q1 f1 q2 f2 q3 f3 q4 f4 q5 f5 q6 f6 q7 f7
        generalize ((((((((X31.setCell ⟨g8, 0, none⟩ (.slice h.a h.n h.cap)).setCell ⟨g8, 1, none⟩ (.int .i64 h.eLo)).setCell ⟨g8, 2, none⟩ (.int .i64 h.eHi)).setCell ⟨g8, 3, none⟩ (.int .i64 h.images)).setCell ⟨g8, 4, none⟩ (.int .i64 h.eyes)).setCell ⟨g8, 5, none⟩ (.int .i64 h.hLo)).setCell ⟨g8, 6, none⟩ (.int .i64 h.hHi)).setCell ⟨g8, 7, none⟩ (.slice h.la h.ln h.lcap)) = X32 at *
        refine hK _ _ (HS.out _ hB32) ?_
        clear hK K hB31 hs8_31 hs9_31 hb7_31
        (try simp only [Act.put, List.setIfInBounds_toArray, List.set_cons_zero, List.set_cons_succ])
        refine tr_step rfl (by rfl) (fun K hK => ?_)
        obtain ⟨u0, q0, f0⟩ := hs9_32.get 0 (by omega)
        obtain ⟨u1, q1, f1⟩ := hs9_32.get 1 (by omega)
        obtain ⟨u2, q2, f2⟩ := hs9_32.get 2 (by omega)
        obtain ⟨u3, q3, f3⟩ := hs9_32.get 3 (by omega)
        obtain ⟨u4, q4, f4⟩ := hs9_32.get 4 (by omega)
        obtain ⟨u5, q5, f5⟩ := hs9_32.get 5 (by omega)
        obtain ⟨u6, q6, f6⟩ := hs9_32.get 6 (by omega)
        obtain ⟨u7, q7, f7⟩ := hs9_32.get 7 (by omega)
        have hB33 := (BC (BC (BC (BC (BC (BC (BC (BC hB32 g9 0 hg9 (.slice h.a h.n h.cap)) g9 1 hg9 (.int .i64 h.eLo)) g9 2 hg9 (.int .i64 h.eHi)) g9 3 hg9 (.int .i64 h.images)) g9 4 hg9 (.int .i64 h.eyes)) g9 5 hg9 (.int .i64 h.hLo)) g9 6 hg9 (.int .i64 h.hHi)) g9 7 hg9 (.slice h.la h.ln h.lcap))
        have hb9_33 := box_wput8 hs9_32 h
        have hbX := wput8_bx X32 g9 h
        unfold wput8 at hb9_33 hbX
        have hb8_33 := Box8.bx hb8_32 hbX (by omega)
        have hb7_33 := Box8.bx hb7_32 hbX (by omega)
        go_simp
        clear hbX q0 f0 q1 f1 q2 f2 q3 f3 q4 f4 q5 f5 q6 f6 q7 f7
        generalize ((((((((X32.setCell ⟨g9, 0, none⟩ (.slice h.a h.n h.cap)).setCell ⟨g9, 1, none⟩ (.int .i64 h.eLo)).setCell ⟨g9, 2, none⟩ (.int .i64 h.eHi)).setCell ⟨g9, 3, none⟩ (.int .i64 h.images)).setCell ⟨g9, 4, none⟩ (.int .i64 h.eyes)).setCell ⟨g9, 5, none⟩ (.int .i64 h.hLo)).setCell ⟨g9, 6, none⟩ (.int .i64 h.hHi)).setCell ⟨g9, 7, none⟩ (.slice h.la h.ln h.lcap)) = X33 at *
        refine hK _ _ (HS.out _ hB33) ?_
        clear hK K hB32 hs9_32 hb8_32 hb7_32
        (try simp only [Act.put, List.setIfInBounds_toArray, List.set_cons_zero, List.set_cons_succ])
        show Exit.then _ _ Exit.normal _ _
        go_wp2_with fail
        go_meet
        exact ⟨g7, g8, g9, rfl, rfl, rfl, hb7_33, hb8_33, hb9_33, ⟨by omega, by omega, by omega⟩, ⟨hg7, hg8, hg9⟩, hB33⟩
  case rest =>
  obtain ⟨g7, g8, g9, rfl, rfl, rfl, hb7, hb8, hb9, ⟨hn1, hn2, hn3⟩, ⟨hg7, hg8, hg9⟩, hb3⟩ := hcut
  obtain ⟨w3, rfl⟩ : ∃ w3 : World, w3 = wc := ⟨_, rfl⟩
  clear HS hB0
  have HS4 : Hid (∀ X, Below w3.heap.size w3 X → X.cell? ⟨w.heap.size, 7, none⟩ = some (.slice h.la h.ln h.lcap) ∧ X.cell? ⟨w.heap.size + 1, 0, none⟩ = some (.int .i64 ey) ∧ X.cell? ⟨w.heap.size + 1, 1, none⟩ = some (.int .i64 im) ∧ X.cell? ⟨w.heap.size + 1, 2, none⟩ = some (.int .i64 rd)) := fun X hX => by
    have hX2 := BT hb3 hX
    obtain ⟨l0, l1, l2⟩ := HL2.out X hX2
    exact ⟨(HB.out.grown hX2).box.c7, l0, l1, l2⟩
  have HL4 : Hid (∀ X, Below w3.heap.size w3 X → LooksIn X h.la ls) := fun X hX => (HB.out.grown (BT hb3 hX)).has.lk
  have hB0 : Below w3.heap.size w3 w3.drew := Below.drew (Below.refl _ _)
  go_upto_region 4 with fail
  go_cut [9] from 50 to 57 (fun a9 X => a9 = .pointer (some ⟨g9, 0, none⟩) ∧ ∃ (sa : Option Addr) (cap : Nat), Box8 X g7 (partH h sa (h.ln + 1) cap) ∧ LooksIn X sa (ls ++ [(ey, im, rd)]) ∧ (∀ b o, sa = some ⟨b, o, none⟩ → w3.heap.size ≤ b) ∧ Box8 X g8 h ∧ Box8 X g9 h ∧ BX g7 w3 X)
  case first =>
    refine wp_region_tree (.read 1 (.read 2 (.read 4 (.two 0 (.two 3 (.one 5 (.one 6 (.read 7 (.one 8 (.leaf))))) 5 (.one 3 (.one 6 (.read 7 (.one 8 (.leaf)))))) 5 (.one 0 (.one 3 (.one 6 (.read 7 (.one 8 (.leaf)))))))))) (fun w' => w'.cell? ⟨w.heap.size, 7, none⟩ = some (.slice h.la h.ln h.lcap) ∧ w'.cell? ⟨w.heap.size + 1, 0, none⟩ = some (.int .i64 ey) ∧ w'.cell? ⟨w.heap.size + 1, 1, none⟩ = some (.int .i64 im) ∧ w'.cell? ⟨w.heap.size + 1, 2, none⟩ = some (.int .i64 rd)) (by kernel_rfl) (by kernel_rfl) (fun _ _ d _ _ h => by cases d <;> exact h) (HS4.out _ hB0) ?_
    generalize w3.drew = X0 at hB0 ⊢
    repeat (first | (refine tr_read rfl (by rfl) _ (fun w' hS => by (try dsimp only at hS); go_simp; (try with_reducible rfl)) ?_; (try simp only [Act.put, List.setIfInBounds_toArray, List.set_cons_zero, List.set_cons_succ])) | (refine tr_skip rfl (by rfl) ?_; (try simp only [Act.put, List.setIfInBounds_toArray, List.set_cons_zero, List.set_cons_succ])))
    refine ⟨?_, ?_⟩
    · skip
      refine tr_step rfl (by rfl) (fun K hK => ?_)
      have hB11 := BA hB0 (.cells #[] 47)
      have hr11 := World.ownsRow_lit (base := w3.heap.size) (e := 47) (size := 3) X0 #[] 0 hB0.size (by unfold maxLen; omega) (by rfl)
      go_simp
      generalize X0.heap.size = gv at *
      generalize X0.alloc (.cells #[] 47) = X11 at *
      refine hK _ _ (HS4.out _ hB11) ?_
      clear hK K
      (try simp only [Act.put, List.setIfInBounds_toArray, List.set_cons_zero, List.set_cons_succ])
      refine ⟨?_, ?_⟩
      · skip
        refine tr_step rfl (by rfl) (fun K hK => ?_)
        refine wp_append_looks (.tmp 50) (.tmp 52) rfl w3.heap.size (.slice (some ⟨gv, 0, none⟩) 0 0) (by rfl) hr11 h.la h.ln h.lcap ls (by rfl) (HL4.out _ hB11) hnl.out (by omega) hB11.size ?_
        intro v3 X12 hr12 hgr12
        have hB12 := hB11.grown hgr12 hB11.size (fun k hk => (hr11.lt k hk).1)
        clear hr11 hgr12
        refine hK _ _ (HS4.out _ hB12) ?_
        clear hK K
        (try simp only [Act.put, List.setIfInBounds_toArray, List.set_cons_zero, List.set_cons_succ])
        refine tr_step rfl (by rfl) (fun K hK => ?_)
        have hB13 := BA hB12 (.cells #[.int .i64 ey, .int .i64 im, .int .i64 rd] 47)
        have hn13 := new_look X12 ey im rd 47
        have hgs : X12.heap.size < (X12.alloc (.cells #[.int .i64 ey, .int .i64 im, .int .i64 rd] 47)).heap.size := by simp
        have hr13 := hr12.kept (World.grownBy_alloc X12 (.cells #[.int .i64 ey, .int .i64 im, .int .i64 rd] 47) none) (by first | (simp [Value.ownBlock]; done) | (cases hq : Value.ownBlock v3 <;> simp))
        clear hr12
        go_simp
        generalize X12.heap.size = gs at *
        generalize X12.alloc (.cells #[.int .i64 ey, .int .i64 im, .int .i64 rd] 47) = X13 at *
        refine hK _ _ (HS4.out _ hB13) ?_
        clear hK K
        (try simp only [Act.put, List.setIfInBounds_toArray, List.set_cons_zero, List.set_cons_succ])
        refine tr_step rfl (by rfl) (fun K hK => ?_)
        refine wp_append_one (.tmp 53) (.tmp 55) rfl w3.heap.size v3 (by rfl) _ _ hr13 ⟨gs, 0, none⟩ 1 (ey, im, rd) (by rfl) hn13 (by omega) hB13.size ?_
        intro v6 X14 hr14 hgr14
        have hB14 := hB13.grown hgr14 hB13.size (fun k hk => (hr13.lt k hk).1)
        obtain ⟨sa, cap, rfl, hsl, hsb⟩ := row_looks (ls := ls ++ [(ey, im, rd)]) (by rw [List.flatMap_append]; simpa using hr14) (by rw [List.length_append, hnl.out]; rfl) HRD.out
        clear hr13 hgr14 hn13 hr14
        refine hK _ _ (HS4.out _ hB14) ?_
        clear hK K
        (try simp only [Act.put, List.setIfInBounds_toArray, List.set_cons_zero, List.set_cons_succ])
        repeat (first | (refine tr_read rfl (by rfl) _ (fun w' hS => by (try dsimp only at hS); go_simp; (try with_reducible rfl)) ?_; (try simp only [Act.put, List.setIfInBounds_toArray, List.set_cons_zero, List.set_cons_succ])) | (refine tr_skip rfl (by rfl) ?_; (try simp only [Act.put, List.setIfInBounds_toArray, List.set_cons_zero, List.set_cons_succ])))
        refine tr_last rfl (by rfl) (by kernel_rfl) (fun K hK => ?_)
        have hb7' := hb7.grown8 hB14
        obtain ⟨u7, p7, f7⟩ := hb7'.slots.get 7 (by omega)
        have hbX := BX.set g7 7 X14 (.slice sa (h.ln + 1) cap)
        have hbx4 := ((BX.refl g7 w3).below' hB14).trans hbX
        have hsl' := LooksIn.bx hsl hbX (fun b o e => by have h1 := (hsb b o e).1; have h2 := lt8 hb7.slots; omega)
        have hb7'' := box8_look hb7' sa (h.ln + 1) cap
        have hb8' := Box8.bx (hb8.grown8 hB14) hbX (Ne.symm hn1)
        have hb9' := Box8.bx (hb9.grown8 hB14) hbX (Ne.symm hn2)
        go_simp
        refine hK _ _ ?_
        clear hK K p7 f7 hb7' hsl hbX
        (try simp only [Act.put, List.setIfInBounds_toArray, List.set_cons_zero, List.set_cons_succ])
        show Exit.then _ _ Exit.normal _ _
        go_wp2_with fail
        go_meet
        exact ⟨rfl, sa, cap, hb7'', hsl', fun b o e => (hsb b o e).1, hb8', hb9', hbx4⟩
      · skip
        refine tr_step rfl (by rfl) (fun K hK => ?_)
        have hB12 := BA hB11 (.cells #[.int .i64 ey, .int .i64 im, .int .i64 rd] 47)
        have hn12 := new_look X11 ey im rd 47
        have hgs : X11.heap.size < (X11.alloc (.cells #[.int .i64 ey, .int .i64 im, .int .i64 rd] 47)).heap.size := by simp
        have hvs := (hr11.lt gv rfl).2
        have hr12 := hr11.kept (World.grownBy_alloc X11 (.cells #[.int .i64 ey, .int .i64 im, .int .i64 rd] 47) none) (by first | (simp [Value.ownBlock]; done) | (cases hq : Value.ownBlock (.slice (some ⟨gv, 0, none⟩) 0 0) <;> simp))
        clear hr11
        go_simp
        generalize X11.heap.size = gs at *
        generalize X11.alloc (.cells #[.int .i64 ey, .int .i64 im, .int .i64 rd] 47) = X12 at *
        refine hK _ _ (HS4.out _ hB12) ?_
        clear hK K
        (try simp only [Act.put, List.setIfInBounds_toArray, List.set_cons_zero, List.set_cons_succ])
        refine tr_step rfl (by rfl) (fun K hK => ?_)
        refine wp_append_looks (.tmp 50) (.tmp 52) rfl w3.heap.size (.slice (some ⟨gv, 0, none⟩) 0 0) (by rfl) hr12 h.la h.ln h.lcap ls (by rfl) (HL4.out _ hB12) hnl.out (by omega) hB12.size ?_
        intro v3 X13 hr13 hgr13
        have hB13 := hB12.grown hgr13 hB12.size (fun k hk => (hr12.lt k hk).1)
        have hn13 : ∀ j u, (lookV (ey, im, rd))[j]? = some u → X13.cell? ((⟨gs, 0, none⟩ : Addr).add j) = some u := fun j u hj => hgr13.cell (hn12 j u hj) (gs_ne (by omega))
        clear hn12
        clear hr12 hgr13
        refine hK _ _ (HS4.out _ hB13) ?_
        clear hK K
        (try simp only [Act.put, List.setIfInBounds_toArray, List.set_cons_zero, List.set_cons_succ])
        refine tr_step rfl (by rfl) (fun K hK => ?_)
        refine wp_append_one (.tmp 53) (.tmp 55) rfl w3.heap.size v3 (by rfl) _ _ hr13 ⟨gs, 0, none⟩ 1 (ey, im, rd) (by rfl) hn13 (by omega) hB13.size ?_
        intro v6 X14 hr14 hgr14
        have hB14 := hB13.grown hgr14 hB13.size (fun k hk => (hr13.lt k hk).1)
        obtain ⟨sa, cap, rfl, hsl, hsb⟩ := row_looks (ls := ls ++ [(ey, im, rd)]) (by rw [List.flatMap_append]; simpa using hr14) (by rw [List.length_append, hnl.out]; rfl) HRD.out
        clear hr13 hgr14 hn13 hr14
        refine hK _ _ (HS4.out _ hB14) ?_
        clear hK K
        (try simp only [Act.put, List.setIfInBounds_toArray, List.set_cons_zero, List.set_cons_succ])
        repeat (first | (refine tr_read rfl (by rfl) _ (fun w' hS => by (try dsimp only at hS); go_simp; (try with_reducible rfl)) ?_; (try simp only [Act.put, List.setIfInBounds_toArray, List.set_cons_zero, List.set_cons_succ])) | (refine tr_skip rfl (by rfl) ?_; (try simp only [Act.put, List.setIfInBounds_toArray, List.set_cons_zero, List.set_cons_succ])))
        refine tr_last rfl (by rfl) (by kernel_rfl) (fun K hK => ?_)
        have hb7' := hb7.grown8 hB14
        obtain ⟨u7, p7, f7⟩ := hb7'.slots.get 7 (by omega)
        have hbX := BX.set g7 7 X14 (.slice sa (h.ln + 1) cap)
        have hbx4 := ((BX.refl g7 w3).below' hB14).trans hbX
        have hsl' := LooksIn.bx hsl hbX (fun b o e => by have h1 := (hsb b o e).1; have h2 := lt8 hb7.slots; omega)
        have hb7'' := box8_look hb7' sa (h.ln + 1) cap
        have hb8' := Box8.bx (hb8.grown8 hB14) hbX (Ne.symm hn1)
        have hb9' := Box8.bx (hb9.grown8 hB14) hbX (Ne.symm hn2)
        go_simp
        refine hK _ _ ?_
        clear hK K p7 f7 hb7' hsl hbX
        (try simp only [Act.put, List.setIfInBounds_toArray, List.set_cons_zero, List.set_cons_succ])
        show Exit.then _ _ Exit.normal _ _
        go_wp2_with fail
        go_meet
        exact ⟨rfl, sa, cap, hb7'', hsl', fun b o e => (hsb b o e).1, hb8', hb9', hbx4⟩
    · skip
      refine tr_step rfl (by rfl) (fun K hK => ?_)
      have hB11 := BA hB0 (.cells #[.int .i64 ey, .int .i64 im, .int .i64 rd] 47)
      have hn11 := new_look X0 ey im rd 47
      have hgs : X0.heap.size < (X0.alloc (.cells #[.int .i64 ey, .int .i64 im, .int .i64 rd] 47)).heap.size := by simp
      go_simp
      generalize X0.heap.size = gs at *
      generalize X0.alloc (.cells #[.int .i64 ey, .int .i64 im, .int .i64 rd] 47) = X11 at *
      refine hK _ _ (HS4.out _ hB11) ?_
      clear hK K
      (try simp only [Act.put, List.setIfInBounds_toArray, List.set_cons_zero, List.set_cons_succ])
      refine tr_step rfl (by rfl) (fun K hK => ?_)
      have hB12 := BA hB11 (.cells #[] 47)
      have hr12 := World.ownsRow_lit (base := w3.heap.size) (e := 47) (size := 3) X11 #[] 0 hB11.size (by unfold maxLen; omega) (by rfl)
      have hn12 : ∀ j u, (lookV (ey, im, rd))[j]? = some u → (X11.alloc (.cells #[] 47)).cell? ((⟨gs, 0, none⟩ : Addr).add j) = some u := fun j u hj => cellB (hn11 j u hj) (newB X11 _)
      clear hn11
      go_simp
      generalize X11.heap.size = gv at *
      generalize X11.alloc (.cells #[] 47) = X12 at *
      refine hK _ _ (HS4.out _ hB12) ?_
      clear hK K
      (try simp only [Act.put, List.setIfInBounds_toArray, List.set_cons_zero, List.set_cons_succ])
      refine tr_step rfl (by rfl) (fun K hK => ?_)
      refine wp_append_looks (.tmp 50) (.tmp 52) rfl w3.heap.size (.slice (some ⟨gv, 0, none⟩) 0 0) (by rfl) hr12 h.la h.ln h.lcap ls (by rfl) (HL4.out _ hB12) hnl.out (by omega) hB12.size ?_
      intro v3 X13 hr13 hgr13
      have hB13 := hB12.grown hgr13 hB12.size (fun k hk => (hr12.lt k hk).1)
      have hn13 : ∀ j u, (lookV (ey, im, rd))[j]? = some u → X13.cell? ((⟨gs, 0, none⟩ : Addr).add j) = some u := fun j u hj => hgr13.cell (hn12 j u hj) (gs_ne (by omega))
      clear hn12
      clear hr12 hgr13
      refine hK _ _ (HS4.out _ hB13) ?_
      clear hK K
      (try simp only [Act.put, List.setIfInBounds_toArray, List.set_cons_zero, List.set_cons_succ])
      refine tr_step rfl (by rfl) (fun K hK => ?_)
      refine wp_append_one (.tmp 53) (.tmp 55) rfl w3.heap.size v3 (by rfl) _ _ hr13 ⟨gs, 0, none⟩ 1 (ey, im, rd) (by rfl) hn13 (by omega) hB13.size ?_
      intro v6 X14 hr14 hgr14
      have hB14 := hB13.grown hgr14 hB13.size (fun k hk => (hr13.lt k hk).1)
      obtain ⟨sa, cap, rfl, hsl, hsb⟩ := row_looks (ls := ls ++ [(ey, im, rd)]) (by rw [List.flatMap_append]; simpa using hr14) (by rw [List.length_append, hnl.out]; rfl) HRD.out
      clear hr13 hgr14 hn13 hr14
      refine hK _ _ (HS4.out _ hB14) ?_
      clear hK K
      (try simp only [Act.put, List.setIfInBounds_toArray, List.set_cons_zero, List.set_cons_succ])
      repeat (first | (refine tr_read rfl (by rfl) _ (fun w' hS => by (try dsimp only at hS); go_simp; (try with_reducible rfl)) ?_; (try simp only [Act.put, List.setIfInBounds_toArray, List.set_cons_zero, List.set_cons_succ])) | (refine tr_skip rfl (by rfl) ?_; (try simp only [Act.put, List.setIfInBounds_toArray, List.set_cons_zero, List.set_cons_succ])))
      refine tr_last rfl (by rfl) (by kernel_rfl) (fun K hK => ?_)
      have hb7' := hb7.grown8 hB14
      obtain ⟨u7, p7, f7⟩ := hb7'.slots.get 7 (by omega)
      have hbX := BX.set g7 7 X14 (.slice sa (h.ln + 1) cap)
      have hbx4 := ((BX.refl g7 w3).below' hB14).trans hbX
      have hsl' := LooksIn.bx hsl hbX (fun b o e => by have h1 := (hsb b o e).1; have h2 := lt8 hb7.slots; omega)
      have hb7'' := box8_look hb7' sa (h.ln + 1) cap
      have hb8' := Box8.bx (hb8.grown8 hB14) hbX (Ne.symm hn1)
      have hb9' := Box8.bx (hb9.grown8 hB14) hbX (Ne.symm hn2)
      go_simp
      refine hK _ _ ?_
      clear hK K p7 f7 hb7' hsl hbX
      (try simp only [Act.put, List.setIfInBounds_toArray, List.set_cons_zero, List.set_cons_succ])
      show Exit.then _ _ Exit.normal _ _
      go_wp2_with fail
      go_meet
      exact ⟨rfl, sa, cap, hb7'', hsl', fun b o e => (hsb b o e).1, hb8', hb9', hbx4⟩
  case rest =>
  obtain ⟨rfl, sa, cap, k7, hsl, hsb, k8, k9, hbx⟩ := hcut
  obtain ⟨w4, rfl⟩ : ∃ w4 : World, w4 = wc := ⟨_, rfl⟩
  have hg8w : g8 < w3.heap.size := lt8 hb8.slots
  have hg9w : g9 < w3.heap.size := lt8 hb9.slots
  have hb4 : Below w2.heap.size w2 w4 := BX.below hb3 hbx hg7 hb3.size
  clear HS4 HL4 hB0 hb7 hb8 hb9 hb3 hbx HL2
  have HB2w := Lib.hid hB2
  clear hB2
  have hhb := HHB.out
  have heb := HEB.out
  have hy5 : 0 ≤ y % 5 ∧ y % 5 ≤ 4 := by omega
  have hy8 : 0 ≤ y / 8 % 5 ∧ y / 8 % 5 ≤ 4 := by omega
  have hy3 : 0 ≤ y % 3 ∧ y % 3 ≤ 2 := by omega
  obtain ⟨lo, hlo⟩ : ∃ lo : Int, (if h.hLo + y % 5 < 0 then h.hLo + y % 5 else 0) = lo := ⟨_, rfl⟩
  obtain ⟨hi, hhi⟩ : ∃ hi : Int, (if y / 8 % 5 < h.hHi then h.hHi - y / 8 % 5 else 0) = hi := ⟨_, rfl⟩
  obtain ⟨el, hel⟩ : ∃ el : Int, (if h.eLo + y % 3 < h.eHi then h.eLo + y % 3 else h.eHi) = el := ⟨_, rfl⟩
  have HLO : Hid (h.hLo ≤ lo ∧ hi ≤ h.hHi ∧ h.eLo ≤ el) := by
    refine ⟨?_, ?_, ?_⟩
    · rw [← hlo]; split <;> omega
    · rw [← hhi]; split <;> omega
    · rw [← hel]; split <;> omega
  obtain ⟨⟨c0, c1, c2, c3, c4, c5, c6, c7⟩, hh⟩ := HB.out.grown hb4
  clear hh c0 c1 c2 c3 c4 c7
  go_wp2_with fail
  refine (spanL_any _ _ _).mono ?_
  rintro e w5 ⟨rfl, hz⟩
  have hb5 := BT hb4 hz
  have k7 := k7.grown8 hz
  have k8 := k8.grown8 hz
  have k9 := k9.grown8 hz
  have hsl := LooksIn.below hsl hz
  clear hz c5 c6 hb4
  obtain ⟨u5, p5, f5⟩ := k8.slots.get 5 (by omega)
  obtain ⟨u6, p6, f6⟩ := k8.slots.get 6 (by omega)
  have hbX := (BX.set g8 5 w5 (.int .i64 lo)).trans (BX.set g8 6 _ (.int .i64 hi))
  have k8 := box8_thin k8 lo hi
  have k7 := Box8.bx k7 hbX hn1
  have k9 := Box8.bx k9 hbX (Ne.symm hn3)
  have hsl := LooksIn.bx hsl hbX (fun b o e => by have := hsb b o e; omega)
  have hb5 := BX.below hb5 hbX hg8 hb5.size
  go_upto_region 6 with fail
  clear p5 f5 p6 f6 hbX hlo hhi
  generalize (w5.setCell ⟨g8, 5, none⟩ (.int .i64 lo)).setCell ⟨g8, 6, none⟩ (.int .i64 hi) = w6 at *
  obtain ⟨⟨c0, c1, c2, c3, c4, c5, c6, c7⟩, hh⟩ := HB.out.grown hb5
  clear hh c0 c3 c4 c5 c6 c7
  go_wp2_with fail
  refine (spanL_any _ _ _).mono ?_
  rintro e w7 ⟨rfl, hz⟩
  have hb7 := BT hb5 hz
  have k7 := k7.grown8 hz
  have k8 := k8.grown8 hz
  have k9 := k9.grown8 hz
  have hsl := LooksIn.below hsl hz
  clear hz c1 c2 hb5
  obtain ⟨u5, p5, f5⟩ := k9.slots.get 1 (by omega)
  obtain ⟨u6, p6, f6⟩ := k9.slots.get 2 (by omega)
  have hbX := (BX.set g9 1 w7 (.int .i64 el)).trans (BX.set g9 2 _ (.int .i64 h.eHi))
  have k9 := box8_best k9 el
  have k7 := Box8.bx k7 hbX hn2
  have k8 := Box8.bx k8 hbX hn3
  have hsl := LooksIn.bx hsl hbX (fun b o e => by have := hsb b o e; omega)
  have hb7 := BX.below hb7 hbX hg9 hb7.size
  go_upto_region 7 with fail
  clear p5 f5 p6 f6 hbX hel
  generalize (w7.setCell ⟨g9, 1, none⟩ (.int .i64 el)).setCell ⟨g9, 2, none⟩ (.int .i64 h.eHi) = w8 at *
  obtain ⟨D0, hD, hD1, _, _⟩ := drop_min HV.out (wok_of HV.out hnl.out HE.out)
  have hDr : 0 ≤ (D0 : Int) ∧ (D0 : Int) < 4096 := by
    have h1 := (pow_12 (n := ls.length) (by have := HL7.out; omega)).2.1
    omega
  generalize (D0 : Int) = D at hD hDr
  obtain ⟨s1, s2, f, hf⟩ : ∃ s1 s2 f : Int, reply (habitR h xs ls 0) = .tuple #[.agg #[.int .i64 s1, .int .i64 s2], .int .i64 f] := by
    unfold habitR
    rw [HV.out, img_iff.2 (show (0 : Int) ≤ 0 ∧ (0 : Int) < h.eyes by have := HE.out; have := HE1.out; omega)]
    exact reply_ask _ _
  have HC1 : Hid (∀ Y, BoxA Y w.heap.size h xs ls → Calls Try.prog 24 #[.agg #[.slice h.a h.n h.cap, .int .i64 h.eLo, .int .i64 h.eHi, .int .i64 h.images, .int .i64 h.eyes, .int .i64 h.hLo, .int .i64 h.hHi, .slice h.la h.ln h.lcap]] Y (Ret (.tuple #[.int .i64 D, .int .i64 0]) Y)) := fun Y hY => by
    have := drop_any h xs ls Y hY.has
    rw [hD] at this; exact this
  have HC2 : Hid (∀ Y, BoxA Y w.heap.size h xs ls → Calls Try.prog 14 #[.agg #[.slice h.a h.n h.cap, .int .i64 h.eLo, .int .i64 h.eHi, .int .i64 h.images, .int .i64 h.eyes, .int .i64 h.hLo, .int .i64 h.hHi, .slice h.la h.ln h.lcap], .int .i64 0] Y (Ret (.tuple #[.agg #[.int .i64 s1, .int .i64 s2], .int .i64 f]) Y)) := fun Y hY => by
    have := habit_any 0 h xs ls Y hY.has
    rw [hf] at this; exact this
  have hBX := HB.out.grown hb7
  obtain ⟨⟨c0, c1, c2, c3, c4, c5, c6, c7⟩, hh⟩ := hBX
  clear hh
  go_wp2_with fail
  refine (HC1.out _ (HB.out.grown hb7)).mono ?_
  rintro e x1 ⟨rfl, hz⟩
  have hb8 := BT hb7 hz
  have k7 := k7.grown8 hz
  have k8 := k8.grown8 hz
  have k9 := k9.grown8 hz
  have hsl := LooksIn.below hsl hz
  clear hz hb7 c0 c1 c2 c3 c4 c5 c6 c7 HC1
  go_upto_region 8 with fail
  have hBX := HB.out.grown hb8
  obtain ⟨⟨c0, c1, c2, c3, c4, c5, c6, c7⟩, hh⟩ := hBX
  clear hh
  go_wp2_with fail
  refine (HC2.out _ (HB.out.grown hb8)).mono ?_
  rintro e x2 ⟨rfl, hz⟩
  have hz := BT hz (newB x2 (.cells #[.int .i64 s1, .int .i64 s2] 24))
  have hb9 := BT hb8 hz
  have k7 := k7.grown8 hz
  have k8 := k8.grown8 hz
  have k9 := k9.grown8 hz
  have hsl := LooksIn.below hsl hz
  clear hz hb8 c0 c1 c2 c3 c4 c5 c6 c7 HC2
  go_upto_region 9 with fail
  generalize x2.alloc (.cells #[.int .i64 s1, .int .i64 s2] 24) = w9 at *
  generalize x2.heap.size = g12 at *
  obtain ⟨d0, d1, d2, d3, d4, d5, d6, d7⟩ := k7.box
  obtain ⟨e0, e1, e2, e3, e4, e5, e6, e7⟩ := k8.box
  obtain ⟨f0, f1, f2, f3, f4, f5, f6, f7⟩ := k9.box
  have hmf : ∀ (fn : Fn) (first cap : Array Value) (w : World), (Instr.makeFunc fn first cap).run Try.prog w = .ok (.func fn first cap) w := fun _ _ _ _ => rfl
  go_upto_region 11 with fail
  have hbs := boxes3 w9 (partH h sa (h.ln + 1) cap) (thinH h lo hi) (bestH h el) 29
  have hz := newB w9 (.cells #[.slice (partH h sa (h.ln + 1) cap).a (partH h sa (h.ln + 1) cap).n (partH h sa (h.ln + 1) cap).cap, .int .i64 (partH h sa (h.ln + 1) cap).eLo, .int .i64 (partH h sa (h.ln + 1) cap).eHi, .int .i64 (partH h sa (h.ln + 1) cap).images, .int .i64 (partH h sa (h.ln + 1) cap).eyes, .int .i64 (partH h sa (h.ln + 1) cap).hLo, .int .i64 (partH h sa (h.ln + 1) cap).hHi, .slice (partH h sa (h.ln + 1) cap).la (partH h sa (h.ln + 1) cap).ln (partH h sa (h.ln + 1) cap).lcap, .slice (thinH h lo hi).a (thinH h lo hi).n (thinH h lo hi).cap, .int .i64 (thinH h lo hi).eLo, .int .i64 (thinH h lo hi).eHi, .int .i64 (thinH h lo hi).images, .int .i64 (thinH h lo hi).eyes, .int .i64 (thinH h lo hi).hLo, .int .i64 (thinH h lo hi).hHi, .slice (thinH h lo hi).la (thinH h lo hi).ln (thinH h lo hi).lcap, .slice (bestH h el).a (bestH h el).n (bestH h el).cap, .int .i64 (bestH h el).eLo, .int .i64 (bestH h el).eHi, .int .i64 (bestH h el).images, .int .i64 (bestH h el).eyes, .int .i64 (bestH h el).hLo, .int .i64 (bestH h el).hHi, .slice (bestH h el).la (bestH h el).ln (bestH h el).lcap] 29)
  have hb10 := BT hb9 hz
  have hsl := LooksIn.below hsl hz
  have hBX := HB.out.grown hb10
  clear d0 d1 d2 d3 d4 d5 d6 d7 e0 e1 e2 e3 e4 e5 e6 e7 f0 f1 f2 f3 f4 f5 f6 f7 k7 k8 k9 hz hb9 hsb
  obtain ⟨hk, lk, hms, hinc, hln⟩ : ∃ (hk : Nat → Wd) (lk : Nat → List LkV), MS (w9.alloc (.cells #[.slice (partH h sa (h.ln + 1) cap).a (partH h sa (h.ln + 1) cap).n (partH h sa (h.ln + 1) cap).cap, .int .i64 (partH h sa (h.ln + 1) cap).eLo, .int .i64 (partH h sa (h.ln + 1) cap).eHi, .int .i64 (partH h sa (h.ln + 1) cap).images, .int .i64 (partH h sa (h.ln + 1) cap).eyes, .int .i64 (partH h sa (h.ln + 1) cap).hLo, .int .i64 (partH h sa (h.ln + 1) cap).hHi, .slice (partH h sa (h.ln + 1) cap).la (partH h sa (h.ln + 1) cap).ln (partH h sa (h.ln + 1) cap).lcap, .slice (thinH h lo hi).a (thinH h lo hi).n (thinH h lo hi).cap, .int .i64 (thinH h lo hi).eLo, .int .i64 (thinH h lo hi).eHi, .int .i64 (thinH h lo hi).images, .int .i64 (thinH h lo hi).eyes, .int .i64 (thinH h lo hi).hLo, .int .i64 (thinH h lo hi).hHi, .slice (thinH h lo hi).la (thinH h lo hi).ln (thinH h lo hi).lcap, .slice (bestH h el).a (bestH h el).n (bestH h el).cap, .int .i64 (bestH h el).eLo, .int .i64 (bestH h el).eHi, .int .i64 (bestH h el).images, .int .i64 (bestH h el).eyes, .int .i64 (bestH h el).hLo, .int .i64 (bestH h el).hHi, .slice (bestH h el).la (bestH h el).ln (bestH h el).lcap] 29)) w.heap.size w9.heap.size h xs ls hk lk ∧ (∀ k, k < 3 → validW (hk k) xs (lk k) = true → Inc h (hk k) xs ls (lk k) E I) ∧ (∀ k, k < 3 → (lk k).length ≤ 40) := by
    have hl7 := HL7.out
    obtain ⟨o1, o2, o3⟩ := HLO.out
    refine ⟨pick3 (partH h sa (h.ln + 1) cap) (thinH h lo hi) (bestH h el), pick3 (ls ++ [(ey, im, rd)]) ls ls, ⟨hBX, hbs, fun k hk => ?_⟩, fun k hk => ?_, fun k hk => ?_⟩
    · have : k = 0 ∨ k = 1 ∨ k = 2 := by omega
      rcases this with rfl | rfl | rfl
      · exact ⟨hBX.has.sp, hsl, hBX.has.nx, by show (ls ++ [(ey, im, rd)]).length = h.ln + 1; rw [List.length_append, hnl.out]; rfl, hBX.has.lx, by show (ls ++ [(ey, im, rd)]).length ≤ _; simp; omega⟩
      · exact ⟨hBX.has.sp, hBX.has.lk, hBX.has.nx, hBX.has.nl, hBX.has.lx, hBX.has.ll⟩
      · exact ⟨hBX.has.sp, hBX.has.lk, hBX.has.nx, hBX.has.nl, hBX.has.lx, hBX.has.ll⟩
    · have : k = 0 ∨ k = 1 ∨ k = 2 := by omega
      rcases this with rfl | rfl | rfl
      · exact fun v' => inc_more HV.out hnl.out hl7 HE.out HI.out (by rw [hnl.out]) v'
      · exact fun v' => inc_thin HV.out hnl.out hl7 HE.out HI.out o1 o2 v'
      · exact fun v' => inc_best HV.out hnl.out hl7 HE.out HI.out o3 v'
    · have : k = 0 ∨ k = 1 ∨ k = 2 := by omega
      rcases this with rfl | rfl | rfl
      · show (ls ++ [(ey, im, rd)]).length ≤ 40; simp; omega
      · show ls.length ≤ 40; omega
      · show ls.length ≤ 40; omega
  generalize w9.heap.size = gS at hms ⊢
  generalize w9.alloc (.cells #[.slice (partH h sa (h.ln + 1) cap).a (partH h sa (h.ln + 1) cap).n (partH h sa (h.ln + 1) cap).cap, .int .i64 (partH h sa (h.ln + 1) cap).eLo, .int .i64 (partH h sa (h.ln + 1) cap).eHi, .int .i64 (partH h sa (h.ln + 1) cap).images, .int .i64 (partH h sa (h.ln + 1) cap).eyes, .int .i64 (partH h sa (h.ln + 1) cap).hLo, .int .i64 (partH h sa (h.ln + 1) cap).hHi, .slice (partH h sa (h.ln + 1) cap).la (partH h sa (h.ln + 1) cap).ln (partH h sa (h.ln + 1) cap).lcap, .slice (thinH h lo hi).a (thinH h lo hi).n (thinH h lo hi).cap, .int .i64 (thinH h lo hi).eLo, .int .i64 (thinH h lo hi).eHi, .int .i64 (thinH h lo hi).images, .int .i64 (thinH h lo hi).eyes, .int .i64 (thinH h lo hi).hLo, .int .i64 (thinH h lo hi).hHi, .slice (thinH h lo hi).la (thinH h lo hi).ln (thinH h lo hi).lcap, .slice (bestH h el).a (bestH h el).n (bestH h el).cap, .int .i64 (bestH h el).eLo, .int .i64 (bestH h el).eHi, .int .i64 (bestH h el).images, .int .i64 (bestH h el).eyes, .int .i64 (bestH h el).hLo, .int .i64 (bestH h el).hHi, .slice (bestH h el).la (bestH h el).ln (bestH h el).lcap] 29) = wS at hms hb10 ⊢
  have HMS := Lib.hid hms
  have HINC := Lib.hid hinc
  have HLN := Lib.hid hln
  have HD := Lib.hid hD
  have HF := Lib.hid hf
  have hBz := BT HB2w.out hb10
  clear hms hinc hln hb10 hBX hsl hbs hD hf HB HB2w HHB HEB HLO HRD HM hhb heb hy5 hy8 hy3 hg7 hg8 hg9 hn1 hn2 hn3 hg8w hg9w hmf
  go_loopw [112] (fun p wr => ∃ k : Nat, k ≤ 3 ∧ p = .int .i64 k ∧ MS wr w.heap.size gS h xs ls hk lk ∧ Below w.heap.size w wr) (fun p _ => 3 - (intOf p).toNat)
  case atStart => exact ⟨0, by omega, rfl, HMS.out, hBz⟩
  case round =>
    obtain ⟨k, hk3, rfl, hms, hBz⟩ := hrel
    by_cases hlt : k < 3
    · have hlt' : (k : Int) < 3 := by omega
      have hk0 : (0 : Int) ≤ (k : Int) := by omega
      have hcs := hms.cs k hlt
      have hhs := hms.hs k hlt
      have hi := HINC.out k hlt
      have hl40 := HLN.out k hlt
      have HMS := Lib.hid hms
      generalize hk k = hx at hcs hhs hi
      generalize lk k = lx at hhs hi hl40
      have HI2 := Lib.hid hi
      have HHS := Lib.hid hhs
      have HL40 := Lib.hid hl40
      obtain ⟨d0, d1, d2, d3, d4, d5, d6, d7⟩ := hcs
      clear hms hi hhs hl40
      go_upto_region 13 with fail
      have hx0 := newB wr (.cells #[.slice hx.a hx.n hx.cap, .int .i64 hx.eLo, .int .i64 hx.eHi, .int .i64 hx.images, .int .i64 hx.eyes, .int .i64 hx.hLo, .int .i64 hx.hHi, .slice hx.la hx.ln hx.lcap] 29)
      have hbx : BoxA (wr.alloc (.cells #[.slice hx.a hx.n hx.cap, .int .i64 hx.eLo, .int .i64 hx.eHi, .int .i64 hx.images, .int .i64 hx.eyes, .int .i64 hx.hLo, .int .i64 hx.hHi, .slice hx.la hx.ln hx.lcap] 29)) wr.heap.size hx xs lx := ⟨boxW_new wr hx _, HHS.out.below hx0⟩
      have HMS := Lib.hid (HMS.out.grown hx0)
      have hBz := BT hBz hx0
      clear d0 d1 d2 d3 d4 d5 d6 d7 hx0 HHS
      generalize wr.heap.size = gx at *
      generalize wr.alloc (.cells #[.slice hx.a hx.n hx.cap, .int .i64 hx.eLo, .int .i64 hx.eHi, .int .i64 hx.images, .int .i64 hx.eyes, .int .i64 hx.hLo, .int .i64 hx.hHi, .slice hx.la hx.ln hx.lcap] 29) = w1 at *
      have HBX := Lib.hid hbx
      clear hbx
      have HCw : Hid (∀ Y, BoxA Y gx hx xs lx → Calls Try.prog 33 #[.agg #[.slice hx.a hx.n hx.cap, .int .i64 hx.eLo, .int .i64 hx.eHi, .int .i64 hx.images, .int .i64 hx.eyes, .int .i64 hx.hLo, .int .i64 hx.hHi, .slice hx.la hx.ln hx.lcap]] Y (Ret (.bool (validW hx xs lx)) Y)) := fun Y hY => watchR_any hx xs lx Y hY.has HX1.out HL40.out
      obtain ⟨⟨c0, c1, c2, c3, c4, c5, c6, c7⟩, hh⟩ := HBX.out
      clear hh
      go_wp2_with fail
      refine (HCw.out _ HBX.out).mono ?_
      rintro e x1 ⟨rfl, hz⟩
      have hBz := BT hBz hz
      have HMS := Lib.hid (HMS.out.grown hz)
      have HBX := Lib.hid (HBX.out.grown hz)
      clear hz c0 c1 c2 c3 c4 c5 c6 c7 HCw
      cases hv' : validW hx xs lx with
      | false =>
        go_wp2_with fail
        go_roundw
        case rel => exact ⟨k + 1, by omega, by go_num, HMS.out, hBz⟩
        case measure => simp [intOf]; omega
      | true =>
      obtain ⟨d, t1, t2, c, qd, hdr, hpop, qh, hcs⟩ := more_facts (HI2.out hv') HD.out HF.out
      have HCS := Lib.hid hcs
      have HC3 : Hid (∀ Y, BoxA Y gx hx xs lx → Calls Try.prog 24 #[.agg #[.slice hx.a hx.n hx.cap, .int .i64 hx.eLo, .int .i64 hx.eHi, .int .i64 hx.images, .int .i64 hx.eyes, .int .i64 hx.hLo, .int .i64 hx.hHi, .slice hx.la hx.ln hx.lcap]] Y (Ret (.tuple #[.int .i64 d, .int .i64 0]) Y)) := fun Y hY => by
        have := drop_any hx xs lx Y hY.has
        rw [qd] at this; exact this
      have HC4 : Hid (∀ Y, BoxA Y gx hx xs lx → Calls Try.prog 14 #[.agg #[.slice hx.a hx.n hx.cap, .int .i64 hx.eLo, .int .i64 hx.eHi, .int .i64 hx.images, .int .i64 hx.eyes, .int .i64 hx.hLo, .int .i64 hx.hHi, .slice hx.la hx.ln hx.lcap], .int .i64 0] Y (Ret (.tuple #[.agg #[.int .i64 t1, .int .i64 t2], .int .i64 c]) Y)) := fun Y hY => by
        have := habit_any 0 hx xs lx Y hY.has
        rw [qh] at this; exact this
      have HZ1 := Lib.hid (sizeR_any d hdr)
      have HZ2 := Lib.hid (sizeR_any D hDr)
      have hpn : ¬ popc d < popc D := by omega
      generalize popc d = pd at HZ1 hpn
      generalize popc D = pD at HZ2 hpn
      have hpn2 : decide (pd < pD) = false := decide_eq_false hpn
      clear hv' qd qh hcs hpop HI2 HL40 hpn
      obtain ⟨⟨c0, c1, c2, c3, c4, c5, c6, c7⟩, hh⟩ := HBX.out
      clear hh
      go_wp2_with fail
      refine (HC3.out _ HBX.out).mono ?_
      rintro e y1 ⟨rfl, hz⟩
      have hBz := BT hBz hz
      have HMS := Lib.hid (HMS.out.grown hz)
      have HBX := Lib.hid (HBX.out.grown hz)
      clear hz c0 c1 c2 c3 c4 c5 c6 c7 HC3
      go_upto_region 15 with fail
      obtain ⟨⟨c0, c1, c2, c3, c4, c5, c6, c7⟩, hh⟩ := HBX.out
      clear hh
      go_wp2_with fail
      refine (HC4.out _ HBX.out).mono ?_
      rintro e y1 ⟨rfl, hx1⟩
      clear c0 c1 c2 c3 c4 c5 c6 c7 HC4
      have hZ := BT hx1 (newB y1 (.cells #[.int .i64 t1, .int .i64 t2] 24))
      have HT19 := Lib.hid (show Two y1.heap.size t1 t2 (y1.alloc (.cells #[.int .i64 t1, .int .i64 t2] 24)) from two_newT y1 _ _ _)
      go_upto_region 16 with fail
      generalize y1.heap.size = g19 at HT19 ⊢
      generalize y1.alloc (.cells #[.int .i64 t1, .int .i64 t2] 24) = v1 at hZ HT19 ⊢
      have hBz := BT hBz hZ
      have HMS := Lib.hid (HMS.out.grown hZ)
      have HBX := Lib.hid (HBX.out.grown hZ)
      clear hZ hx1 HT19
      rcases HCS.out with hc | ⟨hc, hf0, mg⟩
      · subst hc
        go_wp2_with fail
        refine (HZ1.out _).mono ?_
        rintro e z1 ⟨rfl, hz⟩
        have hBz := BT hBz hz
        have HMS := Lib.hid (HMS.out.grown hz)
        clear hz
        go_wp2_with fail
        refine (HZ2.out _).mono ?_
        rintro e z2 ⟨rfl, hz⟩
        have hBz := BT hBz hz
        have HMS := Lib.hid (HMS.out.grown hz)
        clear hz HZ1 HZ2 HCS
        go_wp2_with fail
        go_roundw
        case rel => exact ⟨k + 1, by omega, by go_num, HMS.out, hBz⟩
        case measure => simp [intOf]; omega
      subst hc
      subst hf0
      have MG' := Lib.hid mg
      clear mg HCS
      go_wp2_with fail
      refine (HZ1.out _).mono ?_
      rintro e z1 ⟨rfl, hz⟩
      have hBz := BT hBz hz
      have HMS := Lib.hid (HMS.out.grown hz)
      have HBX := Lib.hid (HBX.out.grown hz)
      clear hz
      go_wp2_with fail
      refine (HZ2.out _).mono ?_
      rintro e z2 ⟨rfl, hz⟩
      have hBz := BT hBz hz
      have HMS := Lib.hid (HMS.out.grown hz)
      have HBX := Lib.hid (HBX.out.grown hz)
      clear hz HZ1 HZ2
      go_upto_region 19 with fail
      clear hpn2
      obtain ⟨qa, qb, ea, eb, hab⟩ := MG'.out.sr
      have HC5 : Hid (∀ Y, BoxA Y w.heap.size h xs ls → Calls Try.prog 20 #[.agg #[.slice h.a h.n h.cap, .int .i64 h.eLo, .int .i64 h.eHi, .int .i64 h.images, .int .i64 h.eyes, .int .i64 h.hLo, .int .i64 h.hHi, .slice h.la h.ln h.lcap]] Y (Ret (.tuple #[.int .i64 qa, .int .i64 0]) Y)) := fun Y hY => by
        have := sure_any h xs ls Y hY.has
        rw [ea] at this; exact this
      have HC6 : Hid (∀ Y, BoxA Y gx hx xs lx → Calls Try.prog 20 #[.agg #[.slice hx.a hx.n hx.cap, .int .i64 hx.eLo, .int .i64 hx.eHi, .int .i64 hx.images, .int .i64 hx.eyes, .int .i64 hx.hLo, .int .i64 hx.hHi, .slice hx.la hx.ln hx.lcap]] Y (Ret (.tuple #[.int .i64 qb, .int .i64 0]) Y)) := fun Y hY => by
        have := sure_any hx xs lx Y hY.has
        rw [eb] at this; exact this
      clear ea eb
      obtain ⟨⟨c0, c1, c2, c3, c4, c5, c6, c7⟩, hh⟩ := HMS.out.bw
      clear hh
      go_wp2_with fail
      refine (HC5.out _ HMS.out.bw).mono ?_
      rintro e y5 ⟨rfl, hz⟩
      have hBz := BT hBz hz
      have HMS := Lib.hid (HMS.out.grown hz)
      have HBX := Lib.hid (HBX.out.grown hz)
      clear hz c0 c1 c2 c3 c4 c5 c6 c7 HC5
      go_upto_region 20 with fail
      obtain ⟨⟨c0, c1, c2, c3, c4, c5, c6, c7⟩, hh⟩ := HBX.out
      clear hh
      go_wp2_with fail
      refine (HC6.out _ HBX.out).mono ?_
      rintro e y6 ⟨rfl, hz⟩
      have hBz := BT hBz hz
      have HMS := Lib.hid (HMS.out.grown hz)
      have HBX := Lib.hid (HBX.out.grown hz)
      clear hz c0 c1 c2 c3 c4 c5 c6 c7 HC6
      go_upto_region 21 with fail
      have c4 := HMS.out.bw.box.c4
      rw [HE.out] at c4
      go_upto_region 24 with fail
      clear c4 hab
      go_loopw [176] (fun p wq => ∃ j : Nat, j ≤ E ∧ p = .int .i64 j ∧ MS wq w.heap.size gS h xs ls hk lk ∧ BoxA wq gx hx xs lx ∧ Below w.heap.size w wq) (fun p _ => E - (intOf p).toNat)
      case atStart => exact ⟨0, by omega, rfl, HMS.out, HBX.out, hBz⟩
      case round =>
        obtain ⟨j, hj, rfl, hms, hbx, hBz⟩ := hrel
        have HMS := Lib.hid hms
        have HBX := Lib.hid hbx
        clear hms hbx
        by_cases hjl : j < E
        · skip
          have hj' : (j : Int) < (E : Int) := by omega
          have hjb : (j : Int) ≤ 6 := by have := HE1.out; omega
          have hj0 : (0 : Int) ≤ (j : Int) := by omega
          obtain ⟨p1, p2, q1, q2, e1, e2, n1, n2⟩ := MG'.out.hb j hjl
          obtain ⟨r1, r2, u1, u2, e3, e4, n3, n4⟩ := MG'.out.bt j hjl
          have HH1 : Hid (∀ Y, BoxA Y w.heap.size h xs ls → Calls Try.prog 14 #[.agg #[.slice h.a h.n h.cap, .int .i64 h.eLo, .int .i64 h.eHi, .int .i64 h.images, .int .i64 h.eyes, .int .i64 h.hLo, .int .i64 h.hHi, .slice h.la h.ln h.lcap], .int .i64 j] Y (Ret (.tuple #[.agg #[.int .i64 p1, .int .i64 p2], .int .i64 0]) Y)) := fun Y hY => by
            have := habit_any j h xs ls Y hY.has
            rw [e1] at this; exact this
          have HH2 : Hid (∀ Y, BoxA Y gx hx xs lx → Calls Try.prog 14 #[.agg #[.slice hx.a hx.n hx.cap, .int .i64 hx.eLo, .int .i64 hx.eHi, .int .i64 hx.images, .int .i64 hx.eyes, .int .i64 hx.hLo, .int .i64 hx.hHi, .slice hx.la hx.ln hx.lcap], .int .i64 j] Y (Ret (.tuple #[.agg #[.int .i64 q1, .int .i64 q2], .int .i64 0]) Y)) := fun Y hY => by
            have := habit_any j hx xs lx Y hY.has
            rw [e2] at this; exact this
          have HB1 : Hid (∀ Y, BoxA Y w.heap.size h xs ls → Calls Try.prog 16 #[.agg #[.slice h.a h.n h.cap, .int .i64 h.eLo, .int .i64 h.eHi, .int .i64 h.images, .int .i64 h.eyes, .int .i64 h.hLo, .int .i64 h.hHi, .slice h.la h.ln h.lcap], .int .i64 0, .int .i64 j] Y (Ret (.tuple #[.agg #[.int .i64 r1, .int .i64 r2], .int .i64 0]) Y)) := fun Y hY => by
            have := between_any 0 j h xs ls Y hY.has
            rw [e3] at this; exact this
          have HB2 : Hid (∀ Y, BoxA Y gx hx xs lx → Calls Try.prog 16 #[.agg #[.slice hx.a hx.n hx.cap, .int .i64 hx.eLo, .int .i64 hx.eHi, .int .i64 hx.images, .int .i64 hx.eyes, .int .i64 hx.hLo, .int .i64 hx.hHi, .slice hx.la hx.ln hx.lcap], .int .i64 0, .int .i64 j] Y (Ret (.tuple #[.agg #[.int .i64 u1, .int .i64 u2], .int .i64 0]) Y)) := fun Y hY => by
            have := between_any 0 j hx xs lx Y hY.has
            rw [e4] at this; exact this
          have HN := Lib.hid (And.intro (And.intro n1 n2) (And.intro n3 n4))
          clear e1 e2 e3 e4 n1 n2 n3 n4
          obtain ⟨⟨c0, c1, c2, c3, c4, c5, c6, c7⟩, hh⟩ := HMS.out.bw
          clear hh
          go_wp2_with fail
          refine (HH1.out _ HMS.out.bw).mono ?_
          rintro e y1 ⟨rfl, hx1⟩
          clear c0 c1 c2 c3 c4 c5 c6 c7 HH1
          have hZ := BT hx1 (newB y1 (.cells #[.int .i64 p1, .int .i64 p2] 24))
          have HT26 := Lib.hid (show Two y1.heap.size p1 p2 (y1.alloc (.cells #[.int .i64 p1, .int .i64 p2] 24)) from two_newT y1 _ _ _)
          go_upto_region 27 with fail
          generalize y1.heap.size = g26 at HT26 ⊢
          generalize y1.alloc (.cells #[.int .i64 p1, .int .i64 p2] 24) = v1 at hZ HT26 ⊢
          have hBz := BT hBz hZ
          have HMS := Lib.hid (HMS.out.grown hZ)
          have HBX := Lib.hid (HBX.out.grown hZ)
          clear hZ hx1
          obtain ⟨⟨c0, c1, c2, c3, c4, c5, c6, c7⟩, hh⟩ := HBX.out
          clear hh
          go_wp2_with fail
          refine (HH2.out _ HBX.out).mono ?_
          rintro e y1 ⟨rfl, hx1⟩
          clear c0 c1 c2 c3 c4 c5 c6 c7 HH2
          have hZ := BT hx1 (newB y1 (.cells #[.int .i64 q1, .int .i64 q2] 24))
          have HT28 := Lib.hid (show Two y1.heap.size q1 q2 (y1.alloc (.cells #[.int .i64 q1, .int .i64 q2] 24)) from two_newT y1 _ _ _)
          go_upto_region 28 with fail
          generalize y1.heap.size = g28 at HT28 ⊢
          generalize y1.alloc (.cells #[.int .i64 q1, .int .i64 q2] 24) = v2 at hZ HT28 ⊢
          have hBz := BT hBz hZ
          have HMS := Lib.hid (HMS.out.grown hZ)
          have HBX := Lib.hid (HBX.out.grown hZ)
          have HT26 := Lib.hid (HT26.out.grown hZ)
          clear hZ hx1
          obtain ⟨⟨c0, c1, c2, c3, c4, c5, c6, c7⟩, hh⟩ := HMS.out.bw
          clear hh
          go_wp2_with fail
          refine (HB1.out _ HMS.out.bw).mono ?_
          rintro e y1 ⟨rfl, hx1⟩
          clear c0 c1 c2 c3 c4 c5 c6 c7 HB1
          have hZ := BT hx1 (newB y1 (.cells #[.int .i64 r1, .int .i64 r2] 24))
          have HT30 := Lib.hid (show Two y1.heap.size r1 r2 (y1.alloc (.cells #[.int .i64 r1, .int .i64 r2] 24)) from two_newT y1 _ _ _)
          go_upto_region 29 with fail
          generalize y1.heap.size = g30 at HT30 ⊢
          generalize y1.alloc (.cells #[.int .i64 r1, .int .i64 r2] 24) = v3 at hZ HT30 ⊢
          have hBz := BT hBz hZ
          have HMS := Lib.hid (HMS.out.grown hZ)
          have HBX := Lib.hid (HBX.out.grown hZ)
          have HT26 := Lib.hid (HT26.out.grown hZ)
          have HT28 := Lib.hid (HT28.out.grown hZ)
          clear hZ hx1
          obtain ⟨⟨c0, c1, c2, c3, c4, c5, c6, c7⟩, hh⟩ := HBX.out
          clear hh
          go_wp2_with fail
          refine (HB2.out _ HBX.out).mono ?_
          rintro e y1 ⟨rfl, hx1⟩
          clear c0 c1 c2 c3 c4 c5 c6 c7 HB2
          have hZ := BT hx1 (newB y1 (.cells #[.int .i64 u1, .int .i64 u2] 24))
          have HT32 := Lib.hid (show Two y1.heap.size u1 u2 (y1.alloc (.cells #[.int .i64 u1, .int .i64 u2] 24)) from two_newT y1 _ _ _)
          go_upto_region 30 with fail
          generalize y1.heap.size = g32 at HT32 ⊢
          generalize y1.alloc (.cells #[.int .i64 u1, .int .i64 u2] 24) = v4 at hZ HT32 ⊢
          have hBz := BT hBz hZ
          have HMS := Lib.hid (HMS.out.grown hZ)
          have HBX := Lib.hid (HBX.out.grown hZ)
          have HT26 := Lib.hid (HT26.out.grown hZ)
          have HT28 := Lib.hid (HT28.out.grown hZ)
          have HT30 := Lib.hid (HT30.out.grown hZ)
          clear hZ hx1
          obtain ⟨y0, y1⟩ := HT26.out
          obtain ⟨y2, y3⟩ := HT28.out
          go_wp2_with fail
          refine (inC_yes p1 p2 q1 q2 HN.out.1.1 HN.out.1.2 _).mono ?_
          rintro e z1 ⟨rfl, hz⟩
          have hBz := BT hBz hz
          have HMS := Lib.hid (HMS.out.grown hz)
          have HBX := Lib.hid (HBX.out.grown hz)
          have HT30 := Lib.hid (HT30.out.grown hz)
          have HT32 := Lib.hid (HT32.out.grown hz)
          clear hz y0 y1 y2 y3 HT26 HT28
          obtain ⟨y0, y1⟩ := HT30.out
          obtain ⟨y2, y3⟩ := HT32.out
          go_wp2_with fail
          refine (inC_yes r1 r2 u1 u2 HN.out.2.1 HN.out.2.2 _).mono ?_
          rintro e z2 ⟨rfl, hz⟩
          have hBz := BT hBz hz
          have HMS := Lib.hid (HMS.out.grown hz)
          have HBX := Lib.hid (HBX.out.grown hz)
          clear hz y0 y1 y2 y3 HT30 HT32
          go_wp2_with fail
          go_roundw
          case rel => exact ⟨j + 1, by omega, by go_num, HMS.out, HBX.out, hBz⟩
          case measure => simp [intOf]; omega
        · obtain rfl : j = E := by omega
          have c3 := HMS.out.bw.box.c3
          rw [HI.out] at c3
          go_upto_region 34 with fail
          clear c3
          go_loopw [218] (fun p wq => ∃ j : Nat, j ≤ I ∧ p = .int .i64 j ∧ MS wq w.heap.size gS h xs ls hk lk ∧ BoxA wq gx hx xs lx ∧ Below w.heap.size w wq) (fun p _ => I - (intOf p).toNat)
          case atStart => exact ⟨0, by omega, rfl, HMS.out, HBX.out, hBz⟩
          case round =>
            obtain ⟨j, hj, rfl, hms, hbx, hBz⟩ := hrel
            have HMS := Lib.hid hms
            have HBX := Lib.hid hbx
            clear hms hbx
            by_cases hjl : j < I
            · skip
              have hj' : (j : Int) < (I : Int) := by omega
              have hjb : (j : Int) ≤ 6 := by have := HI1.out; omega
              have hj0 : (0 : Int) ≤ (j : Int) := by omega
              obtain ⟨p1, p2, o, q1, q2, p, e1, e2, hcs⟩ := MG'.out.pl j hjl
              have HP1 : Hid (∀ Y, BoxA Y w.heap.size h xs ls → Calls Try.prog 18 #[.agg #[.slice h.a h.n h.cap, .int .i64 h.eLo, .int .i64 h.eHi, .int .i64 h.images, .int .i64 h.eyes, .int .i64 h.hLo, .int .i64 h.hHi, .slice h.la h.ln h.lcap], .int .i64 j] Y (Ret (.tuple #[.agg #[.int .i64 p1, .int .i64 p2], .int .i64 o]) Y)) := fun Y hY => by
                have := place_any j h xs ls Y hY.has
                rw [e1] at this; exact this
              have HP2 : Hid (∀ Y, BoxA Y gx hx xs lx → Calls Try.prog 18 #[.agg #[.slice hx.a hx.n hx.cap, .int .i64 hx.eLo, .int .i64 hx.eHi, .int .i64 hx.images, .int .i64 hx.eyes, .int .i64 hx.hLo, .int .i64 hx.hHi, .slice hx.la hx.ln hx.lcap], .int .i64 j] Y (Ret (.tuple #[.agg #[.int .i64 q1, .int .i64 q2], .int .i64 p]) Y)) := fun Y hY => by
                have := place_any j hx xs lx Y hY.has
                rw [e2] at this; exact this
              have HN := Lib.hid hcs
              clear e1 e2 hcs
              obtain ⟨⟨c0, c1, c2, c3, c4, c5, c6, c7⟩, hh⟩ := HMS.out.bw
              clear hh
              go_wp2_with fail
              refine (HP1.out _ HMS.out.bw).mono ?_
              rintro e y1 ⟨rfl, hx1⟩
              clear c0 c1 c2 c3 c4 c5 c6 c7 HP1
              have hZ := BT hx1 (newB y1 (.cells #[.int .i64 p1, .int .i64 p2] 24))
              have HT35 := Lib.hid (show Two y1.heap.size p1 p2 (y1.alloc (.cells #[.int .i64 p1, .int .i64 p2] 24)) from two_newT y1 _ _ _)
              go_upto_region 37 with fail
              generalize y1.heap.size = g35 at HT35 ⊢
              generalize y1.alloc (.cells #[.int .i64 p1, .int .i64 p2] 24) = v1 at hZ HT35 ⊢
              have hBz := BT hBz hZ
              have HMS := Lib.hid (HMS.out.grown hZ)
              have HBX := Lib.hid (HBX.out.grown hZ)
              clear hZ hx1
              obtain ⟨⟨c0, c1, c2, c3, c4, c5, c6, c7⟩, hh⟩ := HBX.out
              clear hh
              go_wp2_with fail
              refine (HP2.out _ HBX.out).mono ?_
              rintro e y1 ⟨rfl, hx1⟩
              clear c0 c1 c2 c3 c4 c5 c6 c7 HP2
              have hZ := BT hx1 (newB y1 (.cells #[.int .i64 q1, .int .i64 q2] 24))
              have HT37 := Lib.hid (show Two y1.heap.size q1 q2 (y1.alloc (.cells #[.int .i64 q1, .int .i64 q2] 24)) from two_newT y1 _ _ _)
              go_upto_region 38 with fail
              generalize y1.heap.size = g37 at HT37 ⊢
              generalize y1.alloc (.cells #[.int .i64 q1, .int .i64 q2] 24) = v2 at hZ HT37 ⊢
              have hBz := BT hBz hZ
              have HMS := Lib.hid (HMS.out.grown hZ)
              have HBX := Lib.hid (HBX.out.grown hZ)
              have HT35 := Lib.hid (HT35.out.grown hZ)
              clear hZ hx1
              rcases HN.out with ho | ⟨ho, hp, n1, n2⟩
              · subst ho
                go_wp2_with fail
                go_roundw
                case rel => exact ⟨j + 1, by omega, by go_num, HMS.out, HBX.out, hBz⟩
                case measure => simp [intOf]; omega
              subst ho
              subst hp
              obtain ⟨y0, y1⟩ := HT35.out
              obtain ⟨y2, y3⟩ := HT37.out
              have n1' := Lib.hid n1
              have n2' := Lib.hid n2
              clear n1 n2 HN
              go_wp2_with fail
              refine (inC_yes p1 p2 q1 q2 n1'.out n2'.out _).mono ?_
              rintro e z1 ⟨rfl, hz⟩
              have hBz := BT hBz hz
              have HMS := Lib.hid (HMS.out.grown hz)
              have HBX := Lib.hid (HBX.out.grown hz)
              clear hz y0 y1 y2 y3 HT35 HT37
              go_wp2_with fail
              go_roundw
              case rel => exact ⟨j + 1, by omega, by go_num, HMS.out, HBX.out, hBz⟩
              case measure => simp [intOf]; omega
            · obtain rfl : j = I := by omega
              go_wp2_with fail
              go_roundw
              case rel => exact ⟨k + 1, by omega, by go_num, HMS.out, hBz⟩
              case measure => simp [intOf]; omega
    · obtain rfl : k = 3 := by omega
      go_wp2_with fail
      refine (awake_any _).mono ?_
      rintro e wz ⟨rfl, hz⟩
      have hB := BT hBz hz
      go_wp2
      go_ret
      exact ⟨rfl, hB⟩
end Ey
end Go.Proofs.Ytcfjakifeihbpaa

namespace Go.Proofs.Ytcfjakifeihbpaa.EyeMoreRow
open Go.ChangeShapes Go.WideShapes Go.ChangeAt Go.RowKit Ey

set_option maxRecDepth 100000 in
theorem open_look {H : Type} {enc : TypeId × Value → H} {w : World} {base : Nat} {spare : Nat → Bool} {held : Bool} {r : Reach} {b0 : Nat} {v : Value} {d : DataW H} {p : List MemPlace} (hval : Value.okWide Try.prog w r b0 47 v) (h : DataW.Trod enc Try.prog w base spare held 47 v d p) :
    ∃ s : Int × Int × Int, v = .agg #[.int .i64 s.1, .int .i64 s.2.1, .int .i64 s.2.2] ∧ s.2.2 ≤ 9223372036854775807 := by
  obtain ⟨cs, rfl, hsz⟩ := okWide_struct Try.underlying47 hval
  obtain ⟨fuel, h⟩ := h
  simp only [Value.cells] at h
  obtain ⟨s, e, hr⟩ := open_lookD h
  exact ⟨s, by rw [Array.toList_inj.1 (show cs.toList = (#[.int .i64 s.1, .int .i64 s.2.1, .int .i64 s.2.2] : Array Value).toList from e)], hr⟩

theorem own : ownKnob Try.prog.godebug = none := by kernel_rfl

set_option maxRecDepth 100000 in
theorem lifted (os : Os) (started : os.Started) (H : Type) (enc : TypeId × Value → H) :
    ReturnsInHanded {} Try.checked os 10 .any (Rows.eyeMoreSpec.pre6 enc Try.prog Try.f10 Rows.eyeMoreRow.domain false) (Rows.eyeMoreSpec.post enc Try.prog Try.f10 false true false false) := by
  refine returnsInHanded_of_change (C := Try.checked) own started (by kernel_rfl) Try.func10
    (ChangeSpec.witness6 (enc := enc) (C := Try.checked) false ⟨#[], #[.agg #[.slice none 0 0, .int .i64 0, .int .i64 0, .int .i64 0, .int .i64 0, .int .i64 0, .int .i64 0, .slice none 0 0], .agg #[.int .i64 0, .int .i64 0, .int .i64 0], .int .u8 0], []⟩ 8 (by kernel_rfl) (by kernel_rfl) (by kernel_rfl) (by kernel_rfl)) ?_
  intro W base args ds gs before hval0 hW hcnd _
  have hval : ∀ (j : Nat) t v, Try.f10.params[j]? = some t → args[j]? = some v → Value.okWide Try.prog W .any base t v := hval0
  have hW' := hW
  obtain ⟨p, q, hA0, hV, rfl, hfz, hnd⟩ := hW
  have hA : DataW.TrodAll enc Try.prog W 0 (fun _ => true) true Try.f10.params.toList args.toList ds p := hA0
  rw [Try.params10] at hA hval
  obtain ⟨v0, vs0, d0, ds0, p0, q0, hargs, rfl, rfl, h0, r0⟩ := trodAll_cons hA
  obtain ⟨v1, vs1, d1, ds1, p1, q1, rfl, rfl, rfl, h1, r1⟩ := trodAll_cons r0
  obtain ⟨v2, vs2, d2, ds2, p2, q2, rfl, rfl, rfl, h2, r2⟩ := trodAll_cons r1
  obtain ⟨rfl, rfl, rfl⟩ := trodAll_nil r2
  obtain rfl : args = #[v0, v1, v2] := Array.toList_inj.1 (by simpa using hargs)
  obtain ⟨hd, xs, ls, rfl, hm⟩ := open_watch (hval 0 29 v0 rfl rfl) h0
  obtain ⟨⟨ey1, im1, rd1⟩, rfl, hx1⟩ := open_look (hval 1 47 v1 rfl rfl) h1
  obtain ⟨y2, rfl, rfl, rfl, w2⟩ := open_int Try.underlying5 (hval 2 5 v2 rfl rfl) h2
  obtain ⟨rfl, rfl⟩ := trodVars_none hV
  have hy2 : 0 ≤ y2 ∧ y2 ≤ 255 := by
    have e1 : IntKind.u8.min = 0 := by decide
    have e2 : IntKind.u8.max = 255 := by decide
    simp only [Lit.wf, e1, e2, Bool.and_eq_true, decide_eq_true_eq] at w2
    exact w2
  refine (more_walk hd xs ls ey1 im1 rd1 y2 W hm hx1 hy2).mono fun e W' ⟨he, hb⟩ => ?_
  subst he
  refine ⟨_, rfl, law_last rfl (by decide +kernel) (fun _ _ _ => trodAll_cons_mk (shut_bool Try.underlying4 _) trodAll_mk0) (ok_one (by kernel_rfl) rfl (okWide_bool_mk Try.underlying4 _)) hW' rfl rfl rfl hb⟩

theorem over : Rows.eyeMoreRow.holds Try.pinned (OpenSpec.ofChange Rows.eyeMoreSpec) :=
  OpenClaim.holds_of_wide 10 Try.f10 rfl rfl rfl rfl rfl rfl rfl ⟨rfl, rfl, rfl, rfl, rfl⟩ rfl rfl rfl rfl rfl (by kernel_rfl) Try.func10 (by kernel_rfl)
    (of_decide_eq_true (by kernel_rfl)) (by unfold Func.isWrapper; first | (rw [if_pos (by decide +kernel)]; kernel_rfl) | (rw [if_neg (by decide +kernel)]; exact ⟨rfl, rfl⟩))
    (fun os started H enc _ => lifted os started H enc)

theorem eyeMore_holds : Rows.EyeMoreSaid := over
#print axioms eyeMore_holds
end Go.Proofs.Ytcfjakifeihbpaa.EyeMoreRow
