/- Eye: the walk of EyeTurned. -/
import Derived.Test.YtcfjakifeihbpaaEtk
import Derived.Test.YtcfjakifeihbpaaEtg
namespace Go.Proofs.Ytcfjakifeihbpaa
namespace Ey
open Go.RowKit

structure TT (Y : World) (B g : Nat) (h h' : Wd) (xs : List (Int × Int)) (ls ls' : List LkV) (a b : Nat) (sc : Option Addr) : Prop where
  bw : BoxA Y B h xs ls
  bx : BoxA Y g h' xs ls'
  ca : Y.cell? ⟨B + 1, 0, none⟩ = some (.int .u8 a)
  cb : Y.cell? ⟨B + 1 + 1, 0, none⟩ = some (.int .u8 b)
  kp : LooksIn Y sc ls
theorem TT.grown {Y Y' : World} {B g : Nat} {h h' : Wd} {xs : List (Int × Int)} {ls ls' : List LkV} {a b : Nat} {sc : Option Addr} (k : TT Y B g h h' xs ls ls' a b sc) (hb : Below Y.heap.size Y Y') : TT Y' B g h h' xs ls ls' a b sc :=
  ⟨k.bw.grown hb, k.bx.grown hb, cellB k.ca hb, cellB k.cb hb, k.kp.below hb⟩
/-- Block g is one of a watch's type. -/
def Typ (X : World) (g : Nat) : Prop := ∃ cur, X.heap[g]? = some (.cells cur 29 (0, 0))
theorem Typ.lt {X : World} {g : Nat} (k : Typ X g) : g < X.heap.size := by
  obtain ⟨c, h⟩ := k
  exact (Array.getElem?_eq_some_iff.1 h).1
theorem Typ.below {X X' : World} {g : Nat} (k : Typ X g) (hb : Below X.heap.size X X') : Typ X' g := by
  have hl := k.lt
  obtain ⟨c, h⟩ := k
  exact ⟨c, (hb.block g hl).trans h⟩
theorem Typ.by {X X' : World} {g : Nat} {row : Option Nat} (k : Typ X g) (hg : X.grownBy X' row) (hn : some g ≠ row) : Typ X' g := by
  have hl := k.lt
  obtain ⟨c, h⟩ := k
  exact ⟨c, (hg.block g hl hn).trans h⟩
theorem typ_new (X : World) (cs : Array Value) : Typ (X.alloc (.cells cs 29)) X.heap.size := ⟨cs, by show (World.alloc X _).heap[X.heap.size]? = _; unfold World.alloc; simp⟩
theorem typ_ne {X : World} {g base n : Nat} {v : Value} {l : List Value} (k : Typ X g) (h : X.ownsRow base 47 3 v n l) : some g ≠ v.ownBlock := by
  obtain ⟨c, hc⟩ := k
  rcases h.2 with ⟨e1, _⟩ | ⟨g1, c1, u1, e1, _, k1, _⟩
  · subst e1; exact fun e => by cases e
  · subst e1
    intro e
    have e : g = g1 := by simpa [Value.ownBlock] using e
    subst e
    rw [hc] at k1
    cases k1
set_option maxRecDepth 100000 in
theorem who_any (B : Nat) (h : Wd) (E a i : Nat) (Y : World) (hE : h.eyes = (E : Int)) (h1 : 1 ≤ E) (hi : i ≤ 1000) (ha : a ≤ 255) (hw : BoxW Y B h) (ca : Y.cell? ⟨B + 1, 0, none⟩ = some (.int .u8 a)) :
    Calls Try.prog 38 #[.int .i64 i, .pointer (some ⟨B + 1, 0, none⟩), .pointer (some ⟨B, 0, none⟩)] Y (Ret (.int .i64 (((i + a) % E : Nat) : Int)) Y) := by
  have c4 := hw.c4
  rw [hE] at c4
  have hq : ((i : Int) + (a : Int)) % (E : Int) = (((i + a) % E : Nat) : Int) := by simp
  generalize (i + a) % E = q at *
  have HQ := Lib.hid hq
  clear hw hq hE
  have hi0 : (0 : Int) ≤ (i : Int) := by omega
  have ha0 : (0 : Int) ≤ (a : Int) := by omega
  have hi1 : (i : Int) ≤ 1000 := by omega
  have ha1 : (a : Int) ≤ 255 := by omega
  have hE1 : (1 : Int) ≤ (E : Int) := by omega
  have hne : ¬ (E : Int) = 0 := by omega
  go_enter Try.func38, Try.ntmps38
  go_wp2
  go_ret
  exact ⟨by rw [HQ.out]; rfl, Below.refl _ _⟩
set_option maxRecDepth 100000 in
theorem img_any (B : Nat) (h : Wd) (E a i : Nat) (Y : World) (hE : h.images = (E : Int)) (h1 : 1 ≤ E) (hi : i ≤ 1000) (ha : a ≤ 255) (hw : BoxW Y B h) (ca : Y.cell? ⟨B + 1 + 1, 0, none⟩ = some (.int .u8 a)) :
    Calls Try.prog 39 #[.int .i64 i, .pointer (some ⟨B + 1 + 1, 0, none⟩), .pointer (some ⟨B, 0, none⟩)] Y (Ret (.int .i64 (((i + a) % E : Nat) : Int)) Y) := by
  have c4 := hw.c3
  rw [hE] at c4
  have hq : ((i : Int) + (a : Int)) % (E : Int) = (((i + a) % E : Nat) : Int) := by simp
  generalize (i + a) % E = q at *
  have HQ := Lib.hid hq
  clear hw hq hE
  have hi0 : (0 : Int) ≤ (i : Int) := by omega
  have ha0 : (0 : Int) ≤ (a : Int) := by omega
  have hi1 : (i : Int) ≤ 1000 := by omega
  have ha1 : (a : Int) ≤ 255 := by omega
  have hE1 : (1 : Int) ≤ (E : Int) := by omega
  have hne : ¬ (E : Int) = 0 := by omega
  go_enter Try.func39, Try.ntmps39
  go_wp2
  go_ret
  exact ⟨by rw [HQ.out]; rfl, Below.refl _ _⟩
set_option maxRecDepth 100000 in
set_option maxHeartbeats 16000000 in
theorem turned_walk (h : Wd) (xs : List (Int × Int)) (ls : List LkV) (a b : Nat) (w : World) (hm : HasW w h xs ls) (ha : a ≤ 255) (hb : b ≤ 255) :
    Calls Try.prog 11 #[h.val, .int .u8 a, .int .u8 b] w (Ret (.bool true) w) := by
  have hmf : ∀ (fn : Fn) (first cap : Array Value) (w : World), (Instr.makeFunc fn first cap).run Try.prog w = .ok (.func fn first cap) w := fun _ _ _ _ => rfl
  have hX0 := newB w (.cells #[.slice h.a h.n h.cap, .int .i64 h.eLo, .int .i64 h.eHi, .int .i64 h.images, .int .i64 h.eyes, .int .i64 h.hLo, .int .i64 h.hHi, .slice h.la h.ln h.lcap] 29)
  have hX1 := newB (w.alloc (.cells #[.slice h.a h.n h.cap, .int .i64 h.eLo, .int .i64 h.eHi, .int .i64 h.images, .int .i64 h.eyes, .int .i64 h.hLo, .int .i64 h.hHi, .slice h.la h.ln h.lcap] 29)) (.cells #[.int .u8 a] 5)
  have hX2 := newB ((w.alloc (.cells #[.slice h.a h.n h.cap, .int .i64 h.eLo, .int .i64 h.eHi, .int .i64 h.images, .int .i64 h.eyes, .int .i64 h.hLo, .int .i64 h.hHi, .slice h.la h.ln h.lcap] 29)).alloc (.cells #[.int .u8 a] 5)) (.cells #[.int .u8 b] 5)
  have hX := BT hX0 (BT hX1 hX2)
  have HB : Hid (BoxA _ _ h xs ls) := ((⟨boxW_new w h 29, hm.below hX0⟩ : BoxA _ _ h xs ls).grown (BT hX1 hX2))
  have hca : Hid ((((w.alloc (.cells #[.slice h.a h.n h.cap, .int .i64 h.eLo, .int .i64 h.eHi, .int .i64 h.images, .int .i64 h.eyes, .int .i64 h.hLo, .int .i64 h.hHi, .slice h.la h.ln h.lcap] 29)).alloc (.cells #[.int .u8 a] 5)).alloc (.cells #[.int .u8 b] 5)).cell? ⟨w.heap.size + 1, 0, none⟩ = some (.int .u8 a)) := by show _ = _; simp [go_sem]
  have hcb : Hid ((((w.alloc (.cells #[.slice h.a h.n h.cap, .int .i64 h.eLo, .int .i64 h.eHi, .int .i64 h.images, .int .i64 h.eyes, .int .i64 h.hLo, .int .i64 h.hHi, .slice h.la h.ln h.lcap] 29)).alloc (.cells #[.int .u8 a] 5)).alloc (.cells #[.int .u8 b] 5)).cell? ⟨w.heap.size + 1 + 1, 0, none⟩ = some (.int .u8 b)) := by show _ = _; simp [go_sem]
  have HM := Lib.hid hm
  have hfar : Hid (∀ Y, Below w.heap.size w Y → Calls Try.prog 12 #[h.val, .int .i64 7] Y (Ret (.bool (farB h xs ls 7)) Y)) := fun Y hY => far_any h xs ls 7 Y (hm.below hY)
  have hwat : Hid (∀ Y, Below w.heap.size w Y → farB h xs ls 7 = false → Calls Try.prog 33 #[h.val] Y (Ret (.bool (validW h xs ls)) Y)) := fun Y hY hf => watchR_any h xs ls Y (hm.below hY) (farB_le hf).2 (farB_le hf).1
  have hnl := Lib.hid hm.nl
  clear hm hX0 hX1 hX2
  unfold Wd.val at hfar hwat ⊢
  go_enter Try.func11, Try.ntmps11
  go_upto_region 1 with fail
  generalize ((w.alloc (.cells #[.slice h.a h.n h.cap, .int .i64 h.eLo, .int .i64 h.eHi, .int .i64 h.images, .int .i64 h.eyes, .int .i64 h.hLo, .int .i64 h.hHi, .slice h.la h.ln h.lcap] 29)).alloc (.cells #[.int .u8 a] 5)).alloc (.cells #[.int .u8 b] 5) = w0 at *
  obtain ⟨⟨c0, c1, c2, c3, c4, c5, c6, c7⟩, hh⟩ := HB.out
  clear hh
  go_wp2_with fail
  refine (hfar.out _ hX).mono ?_
  rintro e w1 ⟨rfl, hx1⟩
  cases hf : farB h xs ls 7 with
  | true =>
    have hB := BT hX hx1
    go_wp2_with fail
    refine (awake_any _).mono ?_
    rintro e wz ⟨rfl, hz⟩
    have hB := BT hB hz
    go_wp2
    go_ret
    exact ⟨rfl, hB⟩
  | false =>
  have hB := BT hX hx1
  have HB := Lib.hid (HB.out.grown hx1)
  have hca := Lib.hid (cellB hca.out hx1)
  have hcb := Lib.hid (cellB hcb.out hx1)
  clear c0 c1 c2 c3 c4 c5 c6 c7 hfar hX hx1
  obtain ⟨⟨c0, c1, c2, c3, c4, c5, c6, c7⟩, hh⟩ := HB.out
  clear hh
  go_wp2_with fail
  refine (hwat.out _ hB hf).mono ?_
  rintro e w2 ⟨rfl, hx2⟩
  have hB2 := BT hB hx2
  have HB := Lib.hid (HB.out.grown hx2)
  have hca := Lib.hid (cellB hca.out hx2)
  have hcb := Lib.hid (cellB hcb.out hx2)
  clear c0 c1 c2 c3 c4 c5 c6 c7 hx2 hwat hB
  cases hv : validW h xs ls with
  | false =>
    go_wp2_with fail
    refine (awake_any _).mono ?_
    rintro e wz ⟨rfl, hz⟩
    have hB := BT hB2 hz
    go_wp2
    go_ret
    exact ⟨rfl, hB⟩
  | true =>
  have HVW := validW_iff hv
  obtain ⟨E, hE⟩ : ∃ E : Nat, h.eyes = (E : Int) := ⟨h.eyes.toNat, by have := HVW.ey; omega⟩
  obtain ⟨I, hI⟩ : ∃ I : Nat, h.images = (I : Int) := ⟨h.images.toNat, by have := HVW.im; omega⟩
  have hE1 : 1 ≤ E ∧ E ≤ 4 := by have := HVW.ey; omega
  have hI1 : 1 ≤ I ∧ I ≤ 6 := by have := HVW.im; omega
  have hl7 : ls.length ≤ 7 := by
    unfold farB at hf
    rw [hv] at hf
    simp at hf
    omega
  have hn7 : h.ln ≤ 7 := by rw [← hnl.out]; exact hl7
  have HLK : Hid (∀ k, k < ls.length → (0 ≤ (ls.getD k (0, 0, 0)).1 ∧ (ls.getD k (0, 0, 0)).1 < E) ∧ (0 ≤ (ls.getD k (0, 0, 0)).2.1 ∧ (ls.getD k (0, 0, 0)).2.1 < I)) := fun k hk => by
    have e : ls.getD k (0, 0, 0) = ls[k] := by simp [List.getD, hk]
    have := HVW.lk _ (List.getElem_mem hk)
    rw [e]; omega
  have HTF := Lib.hid (fun sa cap => turn_facts hv hnl.out hl7 hE hI a b sa cap)
  have HE := Lib.hid hE
  have HI := Lib.hid hI
  have HE1 := Lib.hid hE1
  have HI1 := Lib.hid hI1
  have HL7 := Lib.hid hl7
  clear hv hf HVW hE hI hE1 hI1 hl7
  obtain ⟨⟨c0, c1, c2, c3, c4, c5, c6, c7⟩, hh⟩ := HB.out
  clear hh
  go_upto_region 6 with fail
  clear c0 c1 c2 c3 c4 c5 c6 c7
  have HS6 : Hid (∀ X, Below w2.heap.size w2 X → X.cell? ⟨w.heap.size, 0, none⟩ = some (.slice h.a h.n h.cap) ∧ X.cell? ⟨w.heap.size, 1, none⟩ = some (.int .i64 h.eLo) ∧ X.cell? ⟨w.heap.size, 2, none⟩ = some (.int .i64 h.eHi) ∧ X.cell? ⟨w.heap.size, 3, none⟩ = some (.int .i64 h.images) ∧ X.cell? ⟨w.heap.size, 4, none⟩ = some (.int .i64 h.eyes) ∧ X.cell? ⟨w.heap.size, 5, none⟩ = some (.int .i64 h.hLo) ∧ X.cell? ⟨w.heap.size, 6, none⟩ = some (.int .i64 h.hHi) ∧ X.cell? ⟨w.heap.size, 7, none⟩ = some (.slice h.la h.ln h.lcap)) := fun X hX => by
    obtain ⟨⟨i0, i1, i2, i3, i4, i5, i6, i7⟩, _⟩ := HB.out.grown hX
    exact ⟨i0, i1, i2, i3, i4, i5, i6, i7⟩
  have HL6 : Hid (∀ X, Below w2.heap.size w2 X → LooksIn X h.la ls) := fun X hX => (HB.out.grown hX).has.lk
  have HRD : Hid (∀ s ∈ ls, s.2.2 ≤ 9223372036854775807) := fun s hsm => by
    obtain ⟨j, hj, e⟩ := List.getElem_of_mem hsm
    have e2 : ls.getD j (0, 0, 0) = s := by rw [← e]; simp [List.getD, hj]
    rcases HM.out.lk with h0 | ⟨b, o, _, _, hc⟩
    · rw [h0] at hj; simp at hj
    · have := (hc j hj).2.2.2
      rw [e2] at this; exact this
  have hB0 : Below w2.heap.size w2 w2.drew := Below.drew (Below.refl _ _)
  go_cut [10, 11] from 59 to 64 (fun a10 a11 X => ∃ (g : Nat) (sc : Option Addr) (cc : Nat), a10 = .pointer (some ⟨g, 0, none⟩) ∧ a11 = .slice sc h.ln cc ∧ LooksIn X sc ls ∧ (∀ b o, sc = some ⟨b, o, none⟩ → b ≠ g) ∧ Box8 X g h ∧ Below w2.heap.size w2 X ∧ w2.heap.size ≤ g)
  case first =>
    refine wp_region_tree (.read 0 (.read 2 (.read 3 (.two 1 (.two 4 (.one 5 (.one 6 (.read 7 (.leaf)))) 5 (.one 4 (.one 6 (.read 7 (.leaf))))) 5 (.one 1 (.one 4 (.one 6 (.read 7 (.leaf))))))))) (fun w' => w'.cell? ⟨w.heap.size, 0, none⟩ = some (.slice h.a h.n h.cap) ∧ w'.cell? ⟨w.heap.size, 1, none⟩ = some (.int .i64 h.eLo) ∧ w'.cell? ⟨w.heap.size, 2, none⟩ = some (.int .i64 h.eHi) ∧ w'.cell? ⟨w.heap.size, 3, none⟩ = some (.int .i64 h.images) ∧ w'.cell? ⟨w.heap.size, 4, none⟩ = some (.int .i64 h.eyes) ∧ w'.cell? ⟨w.heap.size, 5, none⟩ = some (.int .i64 h.hLo) ∧ w'.cell? ⟨w.heap.size, 6, none⟩ = some (.int .i64 h.hHi) ∧ w'.cell? ⟨w.heap.size, 7, none⟩ = some (.slice h.la h.ln h.lcap)) (by kernel_rfl) (by kernel_rfl) (fun _ _ d _ _ h => by cases d <;> exact h) (HS6.out _ hB0) ?_
    generalize w2.drew = X0 at hB0 ⊢
    repeat (first | (refine tr_read rfl (by rfl) _ (fun w' hS => by (try dsimp only at hS); go_simp; (try with_reducible rfl)) ?_; (try simp only [Act.put, List.setIfInBounds_toArray, List.set_cons_zero, List.set_cons_succ])) | (refine tr_skip rfl (by rfl) ?_; (try simp only [Act.put, List.setIfInBounds_toArray, List.set_cons_zero, List.set_cons_succ])))
    refine ⟨?_, ?_⟩
    · skip
      refine tr_step rfl (by rfl) (fun K hK => ?_)
      have hB11 := BA hB0 (.cells #[] 47)
      have hr11 := World.ownsRow_lit (base := w2.heap.size) (e := 47) (size := 3) X0 #[] 0 hB0.size (by unfold maxLen; omega) (by rfl)
      go_simp
      generalize X0.heap.size = gv at *
      generalize X0.alloc (.cells #[] 47) = X11 at *
      refine hK _ _ (HS6.out _ hB11) ?_
      clear hK K
      (try simp only [Act.put, List.setIfInBounds_toArray, List.set_cons_zero, List.set_cons_succ])
      refine ⟨?_, ?_⟩
      · skip
        refine tr_step rfl (by rfl) (fun K hK => ?_)
        refine wp_append_looks (.tmp 60) (.tmp 62) rfl w2.heap.size (.slice (some ⟨gv, 0, none⟩) 0 0) (by rfl) hr11 h.la h.ln h.lcap ls (by rfl) (HL6.out _ hB11) hnl.out (by omega) hB11.size ?_
        intro v4 X12 hr12 hgr12
        have hB12 := hB11.grown hgr12 hB11.size (fun k hk => (hr11.lt k hk).1)
        clear hr11 hgr12
        refine hK _ _ (HS6.out _ hB12) ?_
        clear hK K
        (try simp only [Act.put, List.setIfInBounds_toArray, List.set_cons_zero, List.set_cons_succ])
        refine tr_step rfl (by rfl) (fun K hK => ?_)
        have hB13 := BA hB12 (.cells #[.slice none 0 0, .int .i64 0, .int .i64 0, .int .i64 0, .int .i64 0, .int .i64 0, .int .i64 0, .slice none 0 0] 29)
        have hs13 : Slots X12.heap.size 8 (X12.alloc (.cells #[.slice none 0 0, .int .i64 0, .int .i64 0, .int .i64 0, .int .i64 0, .int .i64 0, .int .i64 0, .slice none 0 0] 29)) := slots8 X12 _ _ 0 0 0 0 0 0 _
        have hty13 : Typ (X12.alloc (.cells #[.slice none 0 0, .int .i64 0, .int .i64 0, .int .i64 0, .int .i64 0, .int .i64 0, .int .i64 0, .slice none 0 0] 29)) X12.heap.size := typ_new X12 _
        have hgw := hB12.size
        have hr13 := hr12.kept (World.grownBy_alloc X12 (.cells #[.slice none 0 0, .int .i64 0, .int .i64 0, .int .i64 0, .int .i64 0, .int .i64 0, .int .i64 0, .slice none 0 0] 29) none) (by first | (simp [Value.ownBlock]; done) | (cases hq : Value.ownBlock v4 <;> simp))
        clear hr12
        go_simp
        generalize X12.heap.size = g at *
        generalize X12.alloc (.cells #[.slice none 0 0, .int .i64 0, .int .i64 0, .int .i64 0, .int .i64 0, .int .i64 0, .int .i64 0, .slice none 0 0] 29) = X13 at *
        refine hK _ _ (HS6.out _ hB13) ?_
        clear hK K
        (try simp only [Act.put, List.setIfInBounds_toArray, List.set_cons_zero, List.set_cons_succ])
        refine tr_step rfl (by rfl) (fun K hK => ?_)
        have hne := typ_ne hty13 hr13
        obtain ⟨sc, cc, rfl, hsc, _⟩ := row_looks hr13 hnl.out HRD.out
        obtain ⟨u0, q0, f0⟩ := hs13.get 0 (by omega)
        obtain ⟨u1, q1, f1⟩ := hs13.get 1 (by omega)
        obtain ⟨u2, q2, f2⟩ := hs13.get 2 (by omega)
        obtain ⟨u3, q3, f3⟩ := hs13.get 3 (by omega)
        obtain ⟨u4, q4, f4⟩ := hs13.get 4 (by omega)
        obtain ⟨u5, q5, f5⟩ := hs13.get 5 (by omega)
        obtain ⟨u6, q6, f6⟩ := hs13.get 6 (by omega)
        obtain ⟨u7, q7, f7⟩ := hs13.get 7 (by omega)
        have hB14 := (BC (BC (BC (BC (BC (BC (BC (BC hB13 g 0 hgw (.slice h.a h.n h.cap)) g 1 hgw (.int .i64 h.eLo)) g 2 hgw (.int .i64 h.eHi)) g 3 hgw (.int .i64 h.images)) g 4 hgw (.int .i64 h.eyes)) g 5 hgw (.int .i64 h.hLo)) g 6 hgw (.int .i64 h.hHi)) g 7 hgw (.slice h.la h.ln h.lcap))
        have hbx := box_wput8 hs13 h
        have hbX := wput8_bx X13 g h
        unfold wput8 at hbx hbX
        have hnk : ∀ b o, sc = some ⟨b, o, none⟩ → b ≠ g := fun b o e => by subst e; intro hb; subst hb; exact hne rfl
        have hsd := LooksIn.bx hsc hbX hnk
        clear hne hsc hbX
        go_simp
        clear q0 f0 q1 f1 q2 f2 q3 f3 q4 f4 q5 f5 q6 f6 q7 f7
        generalize ((((((((X13.setCell ⟨g, 0, none⟩ (.slice h.a h.n h.cap)).setCell ⟨g, 1, none⟩ (.int .i64 h.eLo)).setCell ⟨g, 2, none⟩ (.int .i64 h.eHi)).setCell ⟨g, 3, none⟩ (.int .i64 h.images)).setCell ⟨g, 4, none⟩ (.int .i64 h.eyes)).setCell ⟨g, 5, none⟩ (.int .i64 h.hLo)).setCell ⟨g, 6, none⟩ (.int .i64 h.hHi)).setCell ⟨g, 7, none⟩ (.slice h.la h.ln h.lcap)) = X14 at *
        refine hK _ _ (HS6.out _ hB14) ?_
        clear hK K
        (try simp only [Act.put, List.setIfInBounds_toArray, List.set_cons_zero, List.set_cons_succ])
        repeat (first | (refine tr_read rfl (by rfl) _ (fun w' hS => by (try dsimp only at hS); go_simp; (try with_reducible rfl)) ?_; (try simp only [Act.put, List.setIfInBounds_toArray, List.set_cons_zero, List.set_cons_succ])) | (refine tr_skip rfl (by rfl) ?_; (try simp only [Act.put, List.setIfInBounds_toArray, List.set_cons_zero, List.set_cons_succ])))
        show Exit.then _ _ Exit.normal _ _
        go_wp2_with fail
        go_meet
        exact ⟨g, sc, cc, rfl, rfl, hsd, hnk, hbx, hB14, hgw⟩
      · skip
        refine tr_step rfl (by rfl) (fun K hK => ?_)
        have hB12 := BA hB11 (.cells #[.slice none 0 0, .int .i64 0, .int .i64 0, .int .i64 0, .int .i64 0, .int .i64 0, .int .i64 0, .slice none 0 0] 29)
        have hs12 : Slots X11.heap.size 8 (X11.alloc (.cells #[.slice none 0 0, .int .i64 0, .int .i64 0, .int .i64 0, .int .i64 0, .int .i64 0, .int .i64 0, .slice none 0 0] 29)) := slots8 X11 _ _ 0 0 0 0 0 0 _
        have hty12 : Typ (X11.alloc (.cells #[.slice none 0 0, .int .i64 0, .int .i64 0, .int .i64 0, .int .i64 0, .int .i64 0, .int .i64 0, .slice none 0 0] 29)) X11.heap.size := typ_new X11 _
        have hgw := hB11.size
        have hr12 := hr11.kept (World.grownBy_alloc X11 (.cells #[.slice none 0 0, .int .i64 0, .int .i64 0, .int .i64 0, .int .i64 0, .int .i64 0, .int .i64 0, .slice none 0 0] 29) none) (by first | (simp [Value.ownBlock]; done) | (cases hq : Value.ownBlock (.slice (some ⟨gv, 0, none⟩) 0 0) <;> simp))
        clear hr11
        go_simp
        generalize X11.heap.size = g at *
        generalize X11.alloc (.cells #[.slice none 0 0, .int .i64 0, .int .i64 0, .int .i64 0, .int .i64 0, .int .i64 0, .int .i64 0, .slice none 0 0] 29) = X12 at *
        refine hK _ _ (HS6.out _ hB12) ?_
        clear hK K
        (try simp only [Act.put, List.setIfInBounds_toArray, List.set_cons_zero, List.set_cons_succ])
        refine tr_step rfl (by rfl) (fun K hK => ?_)
        refine wp_append_looks (.tmp 60) (.tmp 62) rfl w2.heap.size (.slice (some ⟨gv, 0, none⟩) 0 0) (by rfl) hr12 h.la h.ln h.lcap ls (by rfl) (HL6.out _ hB12) hnl.out (by omega) hB12.size ?_
        intro v4 X13 hr13 hgr13
        have hB13 := hB12.grown hgr13 hB12.size (fun k hk => (hr12.lt k hk).1)
        have hne13 := typ_ne hty12 hr12
        have hs13 := slots_grownBy hs12 hgr13 hne13
        have hty13 := hty12.by hgr13 hne13
        clear hs12 hty12 hne13
        clear hr12 hgr13
        refine hK _ _ (HS6.out _ hB13) ?_
        clear hK K
        (try simp only [Act.put, List.setIfInBounds_toArray, List.set_cons_zero, List.set_cons_succ])
        refine tr_step rfl (by rfl) (fun K hK => ?_)
        have hne := typ_ne hty13 hr13
        obtain ⟨sc, cc, rfl, hsc, _⟩ := row_looks hr13 hnl.out HRD.out
        obtain ⟨u0, q0, f0⟩ := hs13.get 0 (by omega)
        obtain ⟨u1, q1, f1⟩ := hs13.get 1 (by omega)
        obtain ⟨u2, q2, f2⟩ := hs13.get 2 (by omega)
        obtain ⟨u3, q3, f3⟩ := hs13.get 3 (by omega)
        obtain ⟨u4, q4, f4⟩ := hs13.get 4 (by omega)
        obtain ⟨u5, q5, f5⟩ := hs13.get 5 (by omega)
        obtain ⟨u6, q6, f6⟩ := hs13.get 6 (by omega)
        obtain ⟨u7, q7, f7⟩ := hs13.get 7 (by omega)
        have hB14 := (BC (BC (BC (BC (BC (BC (BC (BC hB13 g 0 hgw (.slice h.a h.n h.cap)) g 1 hgw (.int .i64 h.eLo)) g 2 hgw (.int .i64 h.eHi)) g 3 hgw (.int .i64 h.images)) g 4 hgw (.int .i64 h.eyes)) g 5 hgw (.int .i64 h.hLo)) g 6 hgw (.int .i64 h.hHi)) g 7 hgw (.slice h.la h.ln h.lcap))
        have hbx := box_wput8 hs13 h
        have hbX := wput8_bx X13 g h
        unfold wput8 at hbx hbX
        have hnk : ∀ b o, sc = some ⟨b, o, none⟩ → b ≠ g := fun b o e => by subst e; intro hb; subst hb; exact hne rfl
        have hsd := LooksIn.bx hsc hbX hnk
        clear hne hsc hbX
        go_simp
        clear q0 f0 q1 f1 q2 f2 q3 f3 q4 f4 q5 f5 q6 f6 q7 f7
        generalize ((((((((X13.setCell ⟨g, 0, none⟩ (.slice h.a h.n h.cap)).setCell ⟨g, 1, none⟩ (.int .i64 h.eLo)).setCell ⟨g, 2, none⟩ (.int .i64 h.eHi)).setCell ⟨g, 3, none⟩ (.int .i64 h.images)).setCell ⟨g, 4, none⟩ (.int .i64 h.eyes)).setCell ⟨g, 5, none⟩ (.int .i64 h.hLo)).setCell ⟨g, 6, none⟩ (.int .i64 h.hHi)).setCell ⟨g, 7, none⟩ (.slice h.la h.ln h.lcap)) = X14 at *
        refine hK _ _ (HS6.out _ hB14) ?_
        clear hK K
        (try simp only [Act.put, List.setIfInBounds_toArray, List.set_cons_zero, List.set_cons_succ])
        repeat (first | (refine tr_read rfl (by rfl) _ (fun w' hS => by (try dsimp only at hS); go_simp; (try with_reducible rfl)) ?_; (try simp only [Act.put, List.setIfInBounds_toArray, List.set_cons_zero, List.set_cons_succ])) | (refine tr_skip rfl (by rfl) ?_; (try simp only [Act.put, List.setIfInBounds_toArray, List.set_cons_zero, List.set_cons_succ])))
        show Exit.then _ _ Exit.normal _ _
        go_wp2_with fail
        go_meet
        exact ⟨g, sc, cc, rfl, rfl, hsd, hnk, hbx, hB14, hgw⟩
    · skip
      refine tr_step rfl (by rfl) (fun K hK => ?_)
      have hB11 := BA hB0 (.cells #[.slice none 0 0, .int .i64 0, .int .i64 0, .int .i64 0, .int .i64 0, .int .i64 0, .int .i64 0, .slice none 0 0] 29)
      have hs11 : Slots X0.heap.size 8 (X0.alloc (.cells #[.slice none 0 0, .int .i64 0, .int .i64 0, .int .i64 0, .int .i64 0, .int .i64 0, .int .i64 0, .slice none 0 0] 29)) := slots8 X0 _ _ 0 0 0 0 0 0 _
      have hty11 : Typ (X0.alloc (.cells #[.slice none 0 0, .int .i64 0, .int .i64 0, .int .i64 0, .int .i64 0, .int .i64 0, .int .i64 0, .slice none 0 0] 29)) X0.heap.size := typ_new X0 _
      have hgw := hB0.size
      go_simp
      generalize X0.heap.size = g at *
      generalize X0.alloc (.cells #[.slice none 0 0, .int .i64 0, .int .i64 0, .int .i64 0, .int .i64 0, .int .i64 0, .int .i64 0, .slice none 0 0] 29) = X11 at *
      refine hK _ _ (HS6.out _ hB11) ?_
      clear hK K
      (try simp only [Act.put, List.setIfInBounds_toArray, List.set_cons_zero, List.set_cons_succ])
      refine tr_step rfl (by rfl) (fun K hK => ?_)
      have hB12 := BA hB11 (.cells #[] 47)
      have hr12 := World.ownsRow_lit (base := w2.heap.size) (e := 47) (size := 3) X11 #[] 0 hB11.size (by unfold maxLen; omega) (by rfl)
      have hs12 := hs11.below (newB X11 (.cells #[] 47)) (lt8 hs11)
      have hty12 := hty11.below (newB X11 (.cells #[] 47))
      clear hs11 hty11
      go_simp
      generalize X11.heap.size = gv at *
      generalize X11.alloc (.cells #[] 47) = X12 at *
      refine hK _ _ (HS6.out _ hB12) ?_
      clear hK K
      (try simp only [Act.put, List.setIfInBounds_toArray, List.set_cons_zero, List.set_cons_succ])
      refine tr_step rfl (by rfl) (fun K hK => ?_)
      refine wp_append_looks (.tmp 60) (.tmp 62) rfl w2.heap.size (.slice (some ⟨gv, 0, none⟩) 0 0) (by rfl) hr12 h.la h.ln h.lcap ls (by rfl) (HL6.out _ hB12) hnl.out (by omega) hB12.size ?_
      intro v4 X13 hr13 hgr13
      have hB13 := hB12.grown hgr13 hB12.size (fun k hk => (hr12.lt k hk).1)
      have hne13 := typ_ne hty12 hr12
      have hs13 := slots_grownBy hs12 hgr13 hne13
      have hty13 := hty12.by hgr13 hne13
      clear hs12 hty12 hne13
      clear hr12 hgr13
      refine hK _ _ (HS6.out _ hB13) ?_
      clear hK K
      (try simp only [Act.put, List.setIfInBounds_toArray, List.set_cons_zero, List.set_cons_succ])
      refine tr_step rfl (by rfl) (fun K hK => ?_)
      have hne := typ_ne hty13 hr13
      obtain ⟨sc, cc, rfl, hsc, _⟩ := row_looks hr13 hnl.out HRD.out
      obtain ⟨u0, q0, f0⟩ := hs13.get 0 (by omega)
      obtain ⟨u1, q1, f1⟩ := hs13.get 1 (by omega)
      obtain ⟨u2, q2, f2⟩ := hs13.get 2 (by omega)
      obtain ⟨u3, q3, f3⟩ := hs13.get 3 (by omega)
      obtain ⟨u4, q4, f4⟩ := hs13.get 4 (by omega)
      obtain ⟨u5, q5, f5⟩ := hs13.get 5 (by omega)
      obtain ⟨u6, q6, f6⟩ := hs13.get 6 (by omega)
      obtain ⟨u7, q7, f7⟩ := hs13.get 7 (by omega)
      have hB14 := (BC (BC (BC (BC (BC (BC (BC (BC hB13 g 0 hgw (.slice h.a h.n h.cap)) g 1 hgw (.int .i64 h.eLo)) g 2 hgw (.int .i64 h.eHi)) g 3 hgw (.int .i64 h.images)) g 4 hgw (.int .i64 h.eyes)) g 5 hgw (.int .i64 h.hLo)) g 6 hgw (.int .i64 h.hHi)) g 7 hgw (.slice h.la h.ln h.lcap))
      have hbx := box_wput8 hs13 h
      have hbX := wput8_bx X13 g h
      unfold wput8 at hbx hbX
      have hnk : ∀ b o, sc = some ⟨b, o, none⟩ → b ≠ g := fun b o e => by subst e; intro hb; subst hb; exact hne rfl
      have hsd := LooksIn.bx hsc hbX hnk
      clear hne hsc hbX
      go_simp
      clear q0 f0 q1 f1 q2 f2 q3 f3 q4 f4 q5 f5 q6 f6 q7 f7
      generalize ((((((((X13.setCell ⟨g, 0, none⟩ (.slice h.a h.n h.cap)).setCell ⟨g, 1, none⟩ (.int .i64 h.eLo)).setCell ⟨g, 2, none⟩ (.int .i64 h.eHi)).setCell ⟨g, 3, none⟩ (.int .i64 h.images)).setCell ⟨g, 4, none⟩ (.int .i64 h.eyes)).setCell ⟨g, 5, none⟩ (.int .i64 h.hLo)).setCell ⟨g, 6, none⟩ (.int .i64 h.hHi)).setCell ⟨g, 7, none⟩ (.slice h.la h.ln h.lcap)) = X14 at *
      refine hK _ _ (HS6.out _ hB14) ?_
      clear hK K
      (try simp only [Act.put, List.setIfInBounds_toArray, List.set_cons_zero, List.set_cons_succ])
      repeat (first | (refine tr_read rfl (by rfl) _ (fun w' hS => by (try dsimp only at hS); go_simp; (try with_reducible rfl)) ?_; (try simp only [Act.put, List.setIfInBounds_toArray, List.set_cons_zero, List.set_cons_succ])) | (refine tr_skip rfl (by rfl) ?_; (try simp only [Act.put, List.setIfInBounds_toArray, List.set_cons_zero, List.set_cons_succ])))
      show Exit.then _ _ Exit.normal _ _
      go_wp2_with fail
      go_meet
      exact ⟨g, sc, cc, rfl, rfl, hsd, hnk, hbx, hB14, hgw⟩

  case rest =>
  obtain ⟨g, sc, cc, rfl, rfl, hsc, hnk, hbx, hb6, hgw⟩ := hcut
  obtain ⟨w3, rfl⟩ : ∃ w3 : World, w3 = wc := ⟨_, rfl⟩
  clear HS6 HL6 hB0
  obtain ⟨u7, p7, z7⟩ := hbx.slots.get 7 (by omega)
  go_upto_region 8 with fail
  have hb7 := BC hb6 g 7 hgw (.slice none 0 0)
  have hbX := BX.set g 7 w3 (.slice none 0 0)
  have hsc := LooksIn.bx hsc hbX hnk
  have hT0 : TK (w3.setCell ⟨g, 7, none⟩ (.slice none 0 0)) (w3.setCell ⟨g, 7, none⟩ (.slice none 0 0)) g h (.slice none 0 0) [] := by
    have hlt := lt8 hbx.slots
    have c : ∀ o v, w3.cell? ⟨g, o, none⟩ = some v → o ≠ 7 → (w3.setCell ⟨g, 7, none⟩ (.slice none 0 0)).cell? ⟨g, o, none⟩ = some v := fun o v hv ho => by
      rw [World.cell?_setCell_other _ _ _ _ (by intro he; injection he; omega)]; exact hv
    obtain ⟨⟨i0, i1, i2, i3, i4, i5, i6, i7⟩, sl⟩ := hbx
    exact ⟨BX.refl _ _, sl.set _ _, c _ _ i0 (by omega), c _ _ i1 (by omega), c _ _ i2 (by omega), c _ _ i3 (by omega), c _ _ i4 (by omega), c _ _ i5 (by omega), c _ _ i6 (by omega), World.cell?_setCell_same _ _ _ p7, World.ownsRow_nil _ _ _ _, by simpa using hlt⟩
  clear hbx p7 z7 hb6 hbX
  generalize w3.setCell ⟨g, 7, none⟩ (.slice none 0 0) = w6 at *
  have HT0 := Lib.hid hT0
  have HSC := Lib.hid hsc
  have HNK := Lib.hid hnk
  have HB7 := Lib.hid hb7
  clear hT0 hsc hnk hb7
  have hcells := (HB.out.grown HB7.out)
  obtain ⟨⟨c0, c1, c2, c3, c4, c5, c6, c7⟩, hh⟩ := hcells
  clear hh c0 c1 c2 c3 c4 c5 c6
  have hn9 : (h.ln : Int) ≤ 7 := by omega
  go_upto_region 9 with fail
  clear c7
  go_loopw [68] (fun p wr => ∃ k : Nat, k ≤ h.ln ∧ p = .int .i64 k ∧ ∃ sv, TK w6 wr g h sv (turnL ls E I a b k)) (fun p _ => h.ln - (intOf p).toNat)
  case atStart => exact ⟨0, by omega, rfl, _, HT0.out⟩
  case round =>
    obtain ⟨k, hk, rfl, sv, hT⟩ := hrel
    have hbr : Below w2.heap.size w2 wr := BX.below HB7.out hT.bx hgw HB7.out.size
    have HT := Lib.hid hT
    have HBR := Lib.hid hbr
    clear hT hbr
    by_cases hlt : k < h.ln
    · have hlt' : (k : Int) < (h.ln : Int) := by omega
      have hk0 : (0 : Int) ≤ (k : Int) := by omega
      obtain ⟨j, hj⟩ : ∃ j : Nat, j = ls.length - 1 - k := ⟨_, rfl⟩
      have hjl : j < ls.length := by rw [hj, hnl.out]; omega
      have hji : (h.ln : Int) - 1 - (k : Int) = (j : Int) := by rw [hj, hnl.out]; omega
      have hjn : (j : Int) < (h.ln : Int) := by omega
      have hst : Hid (turnL ls E I a b (k + 1) = turnL ls E I a b k ++ [(((ls.getD j (0, 0, 0)).1 + a) % E, ((ls.getD j (0, 0, 0)).2.1 + b) % I, (ls.getD j (0, 0, 0)).2.2)]) := by show _ = _; rw [hj]; rfl
      have hlk := HLK.out j hjl
      have hcells := HB.out.grown HBR.out
      rcases hcells.has.lk with hnil | ⟨bt, ot, hla, hbt, hct⟩
      · exfalso; rw [hnil] at hjl; simp at hjl
      obtain ⟨d0, d1, d2, d3⟩ := hct j hjl
      obtain ⟨⟨c0, c1, c2, c3, c4, c5, c6, c7⟩, hh⟩ := hcells
      rw [hla] at c7
      clear hh hla hct c0 c1 c2 c3 c4 c5 c6
      generalize ls.getD j (0, 0, 0) = lv at *
      obtain ⟨ey, im, rd⟩ := lv
      dsimp only at d0 d1 d2 d3 hst hlk
      obtain ⟨en, rfl⟩ : ∃ en : Nat, ey = en := ⟨ey.toNat, by omega⟩
      obtain ⟨mn, rfl⟩ : ∃ mn : Nat, im = mn := ⟨im.toNat, by omega⟩
      have he4 : en < 4 ∧ mn < 6 := by have := HE1.out; have := HI1.out; omega
      have hj0 : (0 : Int) ≤ (j : Int) := by omega
      clear hj hlk
      go_upto_region 12 with fail
      have hBl := newB wr (.cells #[.int .i64 en, .int .i64 mn, .int .i64 rd] 47)
      have e0 : (wr.alloc (.cells #[.int .i64 en, .int .i64 mn, .int .i64 rd] 47)).cell? ⟨wr.heap.size, 0, none⟩ = some (.int .i64 en) := by simp [go_sem]
      have e1 : (wr.alloc (.cells #[.int .i64 en, .int .i64 mn, .int .i64 rd] 47)).cell? ⟨wr.heap.size, 1, none⟩ = some (.int .i64 mn) := by simp [go_sem]
      have e2 : (wr.alloc (.cells #[.int .i64 en, .int .i64 mn, .int .i64 rd] 47)).cell? ⟨wr.heap.size, 2, none⟩ = some (.int .i64 rd) := by simp [go_sem]
      have HOWN : Hid (∀ bk, sv.ownBlock = some bk → bk < wr.heap.size) := fun bk e => (HT.out.row.lt bk e).2
      have HT := Lib.hid (HT.out.grown hBl)
      have HBR := Lib.hid (BT HBR.out hBl)
      clear d0 d1 d2 c7 hbt hBl hji hjn hj0
      generalize wr.heap.size = gl at *
      generalize wr.alloc (.cells #[.int .i64 en, .int .i64 mn, .int .i64 rd] 47) = wl at *
      obtain ⟨q1, hq1⟩ : ∃ q1 : Nat, q1 = (en + a) % E := ⟨_, rfl⟩
      obtain ⟨q2, hq2⟩ : ∃ q2 : Nat, q2 = (mn + b) % I := ⟨_, rfl⟩
      have HW : Hid (∀ Y, Below wl.heap.size wl Y → Calls Try.prog 38 #[.int .i64 en, .pointer (some ⟨w.heap.size + 1, 0, none⟩), .pointer (some ⟨w.heap.size, 0, none⟩)] Y (Ret (.int .i64 q1) Y)) := fun Y hY => by
        have hY2 := BT HBR.out hY
        rw [hq1]
        exact who_any w.heap.size h E a en Y HE.out HE1.out.1 (by omega) ha (HB.out.grown hY2).box (cellB hca.out hY2)
      have HI2 : Hid (∀ Y, Below wl.heap.size wl Y → Calls Try.prog 39 #[.int .i64 mn, .pointer (some ⟨w.heap.size + 1 + 1, 0, none⟩), .pointer (some ⟨w.heap.size, 0, none⟩)] Y (Ret (.int .i64 q2) Y)) := fun Y hY => by
        have hY2 := BT HBR.out hY
        rw [hq2]
        exact img_any w.heap.size h I b mn Y HI.out HI1.out.1 (by omega) hb (HB.out.grown hY2).box (cellB hcb.out hY2)
      have hst : Hid (turnL ls E I a b (k + 1) = turnL ls E I a b k ++ [((q1 : Int), (q2 : Int), rd)]) := by
        show _ = _
        rw [hst.out, hq1, hq2]; simp
      clear hq1 hq2
      have f7 := HT.out.f7
      have HS : Hid (∀ X, Below wl.heap.size wl X → X.cell? ⟨g, 7, none⟩ = some sv ∧ X.cell? ⟨gl, 0, none⟩ = some (.int .i64 en) ∧ X.cell? ⟨gl, 1, none⟩ = some (.int .i64 mn) ∧ X.cell? ⟨gl, 2, none⟩ = some (.int .i64 rd)) := fun X hX => ⟨cellB f7 hX, cellB e0 hX, cellB e1 hX, cellB e2 hX⟩
      have hbd : Below wl.heap.size wl wl.drew := Below.drew (Below.refl _ _)
      have hTd := HT.out.grown hbd
      have hlen : (turnL ls E I a b k).length = k := turnL_len _ _ _ _ _ _
      clear e0 e1 e2 f7 HT
      refine wp_region_seq [(0, true), (1, true), (2, true), (3, true), (4, true), (6, true), (7, true), (8, true), (10, true), (11, true), (5, false), (9, false), (12, true), (13, false), (14, false), (15, true), (16, false)] (fun w' => w'.cell? ⟨g, 7, none⟩ = some sv ∧ w'.cell? ⟨gl, 0, none⟩ = some (.int .i64 en) ∧ w'.cell? ⟨gl, 1, none⟩ = some (.int .i64 mn) ∧ w'.cell? ⟨gl, 2, none⟩ = some (.int .i64 rd)) (by kernel_rfl) (by kernel_rfl) (fun _ _ d _ _ h => by cases d <;> exact h) (HS.out _ hbd) ?_
      generalize wl.drew = X0 at hbd hTd ⊢
      repeat (first | (refine seq_read rfl (by rfl) _ (fun w' hS => by (try dsimp only at hS); go_simp; (try with_reducible rfl)) ?_; (try simp only [Act.put, List.setIfInBounds_toArray, List.set_cons_zero, List.set_cons_succ])) | (refine seq_skip rfl (by rfl) ?_; (try simp only [Act.put, List.setIfInBounds_toArray, List.set_cons_zero, List.set_cons_succ])))
      refine seq_do rfl (by rfl) (fun K hK => ?_)
      go_simp
      refine (HW.out _ hbd).mono ?_
      rintro e X1 ⟨rfl, hz⟩
      have hB1 := BT hbd hz
      have hT1 := hTd.grown hz
      refine hK _ _ (HS.out _ hB1) ?_
      clear hK K hbd hTd hz
      (try simp only [Act.put, List.setIfInBounds_toArray, List.set_cons_zero, List.set_cons_succ])
      repeat (first | (refine seq_read rfl (by rfl) _ (fun w' hS => by (try dsimp only at hS); go_simp; (try with_reducible rfl)) ?_; (try simp only [Act.put, List.setIfInBounds_toArray, List.set_cons_zero, List.set_cons_succ])) | (refine seq_skip rfl (by rfl) ?_; (try simp only [Act.put, List.setIfInBounds_toArray, List.set_cons_zero, List.set_cons_succ])))
      refine seq_do rfl (by rfl) (fun K hK => ?_)
      go_simp
      refine (HI2.out _ hB1).mono ?_
      rintro e X2 ⟨rfl, hz⟩
      have hB2' := BT hB1 hz
      have hT2 := hT1.grown hz
      refine hK _ _ (HS.out _ hB2') ?_
      clear hK K hB1 hT1 hz HW HI2
      (try simp only [Act.put, List.setIfInBounds_toArray, List.set_cons_zero, List.set_cons_succ])
      repeat (first | (refine seq_read rfl (by rfl) _ (fun w' hS => by (try dsimp only at hS); go_simp; (try with_reducible rfl)) ?_; (try simp only [Act.put, List.setIfInBounds_toArray, List.set_cons_zero, List.set_cons_succ])) | (refine seq_skip rfl (by rfl) ?_; (try simp only [Act.put, List.setIfInBounds_toArray, List.set_cons_zero, List.set_cons_succ])))
      refine seq_do rfl (by rfl) (fun K hK => ?_)
      have hz := newB X2 (.cells #[.int .i64 q1, .int .i64 q2, .int .i64 rd] 47)
      have hB3 := BT hB2' hz
      have hT3 := hT2.grown hz
      have hnew := new_look X2 q1 q2 rd 47
      have hsz := hT2.bx.size
      go_simp
      refine hK _ _ (HS.out _ hB3) ?_
      clear hK K hB2' hT2 hz
      (try simp only [Act.put, List.setIfInBounds_toArray, List.set_cons_zero, List.set_cons_succ])
      repeat (first | (refine seq_read rfl (by rfl) _ (fun w' hS => by (try dsimp only at hS); go_simp; (try with_reducible rfl)) ?_; (try simp only [Act.put, List.setIfInBounds_toArray, List.set_cons_zero, List.set_cons_succ])) | (refine seq_skip rfl (by rfl) ?_; (try simp only [Act.put, List.setIfInBounds_toArray, List.set_cons_zero, List.set_cons_succ])))
      refine seq_do rfl (by rfl) (fun K hK => ?_)
      refine wp_append_one (.tmp 80) (.tmp 92) rfl w6.heap.size sv (by rfl) _ _ hT3.row ⟨X2.heap.size, 0, none⟩ 1 ((q1 : Int), (q2 : Int), rd) (by rfl) hnew (by rw [hlen]; omega) hT3.bx.size ?_
      intro v4 X4 hr4 hg4
      obtain ⟨g4, n4, c4, rfl⟩ : ∃ g4 n4 c4, v4 = .slice (some ⟨g4, 0, none⟩) n4 c4 := by
        rcases hr4.2 with ⟨_, h2⟩ | ⟨g', cap', cur, h1, _⟩
        · omega
        · exact ⟨g', _, cap', h1⟩
      obtain ⟨g7, g0, g1, g2⟩ := HS.out _ hB3
      have hne : ∀ j, gl = j → some j ≠ sv.ownBlock := fun j hj e => by have := HOWN.out j e.symm; omega
      have f7' := hg4.cell g7 (fun e => by have h1 : w6.heap.size ≤ g := (hT3.row.lt _ e.symm).1; have h2 := hT3.lt; omega)
      have k0 := hg4.cell g0 (hne _ rfl)
      have k1 := hg4.cell g1 (hne _ rfl)
      have k2 := hg4.cell g2 (hne _ rfl)
      obtain ⟨u7', p7', z7'⟩ := (slots_grownBy hT3.sl hg4 (fun e => by have h1 := (hT3.row.lt _ e.symm).1; have h2 := hT3.lt; omega)).get 7 (by omega)
      have hPn := Lib.hid (hT3.put (s := ((q1 : Int), (q2 : Int), rd)) hg4 hr4)
      clear p7'
      refine hK _ _ ⟨f7', k0, k1, k2⟩ ?_
      clear hK K hr4 hg4 hT3 hB3 hnew g7 g0 g1 g2 k0 k1 k2 hne hsz HS
      (try simp only [Act.put, List.setIfInBounds_toArray, List.set_cons_zero, List.set_cons_succ])
      repeat (first | (refine seq_read rfl (by rfl) _ (fun w' hS => by (try dsimp only at hS); go_simp; (try with_reducible rfl)) ?_; (try simp only [Act.put, List.setIfInBounds_toArray, List.set_cons_zero, List.set_cons_succ])) | (refine seq_skip rfl (by rfl) ?_; (try simp only [Act.put, List.setIfInBounds_toArray, List.set_cons_zero, List.set_cons_succ])))
      refine seq_last rfl (by rfl) (by kernel_rfl) (fun K hK => ?_)
      go_simp
      refine hK _ _ ?_
      clear hK K f7' z7'
      (try simp only [Act.put, List.setIfInBounds_toArray, List.set_cons_zero, List.set_cons_succ])
      go_wp2_with fail
      go_roundw
      case rel => exact ⟨k + 1, by omega, by go_num, _, by rw [hst.out]; exact hPn.out⟩
      case measure => simp [intOf]; omega
    · obtain rfl : k = h.ln := by omega
      have hT := HT.out
      have hbr := HBR.out
      obtain ⟨sa, cap, rfl, hsl, _⟩ := row_looks hT.row rfl (fun l hl => by
        obtain ⟨m, hm, rfl⟩ := turnL_mem (by rw [hnl.out]; exact Nat.le_refl _) hl
        exact HRD.out m hm)
      have hlen : (turnL ls E I a b h.ln).length = h.ln := turnL_len _ _ _ _ _ _
      have hBw := HB.out.grown hbr
      have hTT : TT wr w.heap.size g h (partH h sa h.ln cap) xs ls (turnL ls E I a b h.ln) a b sc := by
        obtain ⟨_, _, f0, f1, f2, f3, f4, f5, f6, f7, _, _⟩ := hT
        rw [hlen] at f7
        exact ⟨hBw, ⟨⟨f0, f1, f2, f3, f4, f5, f6, f7⟩, ⟨hBw.has.sp, hsl, hBw.has.nx, hlen, hBw.has.lx, by rw [hlen]; omega⟩⟩, cellB hca.out hbr, cellB hcb.out hbr, HSC.out.bx HT.out.bx HNK.out⟩
      obtain ⟨W, W', D, D', s, s', xp, xq, c, cx, tf⟩ := HTF.out sa cap
      rw [hnl.out] at tf
      have hBz := BT hB2 hbr
      clear hT hbr hsl hlen hBw HT HBR HT0 HSC HNK HB7 HTF HRD HLK HB hca hcb hgw hB2 hmf
      have HTW : Hid (h.images = (I : Int) ∧ h.eyes = (E : Int)) := ⟨HI.out, HE.out⟩
      generalize partH h sa h.ln cap = tw at hTT tf
      generalize turnL ls E I a b h.ln = tl at hTT tf
      have HT := Lib.hid hTT
      have TF' := Lib.hid tf
      clear hTT tf hlt hk
      obtain ⟨z0, rfl⟩ : ∃ z0 : World, z0 = wr := ⟨_, rfl⟩
      have HC1 : Hid (∀ Y, TT Y w.heap.size g h tw xs ls tl a b sc → Calls Try.prog 22 #[.agg #[.slice h.a h.n h.cap, .int .i64 h.eLo, .int .i64 h.eHi, .int .i64 h.images, .int .i64 h.eyes, .int .i64 h.hLo, .int .i64 h.hHi, .slice h.la h.ln h.lcap]] Y (Ret (.tuple #[.int .i64 W, .int .i64 0]) Y)) := fun Y hY => by
        have := clash_any h xs ls Y hY.bw.has
        rw [TF'.out.fw] at this; exact this
      have HC2 : Hid (∀ Y, TT Y w.heap.size g h tw xs ls tl a b sc → Calls Try.prog 22 #[.agg #[.slice tw.a tw.n tw.cap, .int .i64 tw.eLo, .int .i64 tw.eHi, .int .i64 tw.images, .int .i64 tw.eyes, .int .i64 tw.hLo, .int .i64 tw.hHi, .slice tw.la tw.ln tw.lcap]] Y (Ret (.tuple #[.int .i64 W', .int .i64 0]) Y)) := fun Y hY => by
        have := clash_any tw xs tl Y hY.bx.has
        rw [TF'.out.fw'] at this; exact this
      have HC3 : Hid (∀ Y, TT Y w.heap.size g h tw xs ls tl a b sc → Calls Try.prog 24 #[.agg #[.slice h.a h.n h.cap, .int .i64 h.eLo, .int .i64 h.eHi, .int .i64 h.images, .int .i64 h.eyes, .int .i64 h.hLo, .int .i64 h.hHi, .slice h.la h.ln h.lcap]] Y (Ret (.tuple #[.int .i64 D, .int .i64 0]) Y)) := fun Y hY => by
        have := drop_any h xs ls Y hY.bw.has
        rw [TF'.out.fd] at this; exact this
      have HC4 : Hid (∀ Y, TT Y w.heap.size g h tw xs ls tl a b sc → Calls Try.prog 24 #[.agg #[.slice tw.a tw.n tw.cap, .int .i64 tw.eLo, .int .i64 tw.eHi, .int .i64 tw.images, .int .i64 tw.eyes, .int .i64 tw.hLo, .int .i64 tw.hHi, .slice tw.la tw.ln tw.lcap]] Y (Ret (.tuple #[.int .i64 D', .int .i64 0]) Y)) := fun Y hY => by
        have := drop_any tw xs tl Y hY.bx.has
        rw [TF'.out.fd'] at this; exact this
      have HC5 : Hid (∀ Y, TT Y w.heap.size g h tw xs ls tl a b sc → Calls Try.prog 20 #[.agg #[.slice h.a h.n h.cap, .int .i64 h.eLo, .int .i64 h.eHi, .int .i64 h.images, .int .i64 h.eyes, .int .i64 h.hLo, .int .i64 h.hHi, .slice h.la h.ln h.lcap]] Y (Ret (.tuple #[.int .i64 s, .int .i64 c]) Y)) := fun Y hY => by
        have := sure_any h xs ls Y hY.bw.has
        rw [TF'.out.fs] at this; exact this
      have HC6 : Hid (∀ Y, TT Y w.heap.size g h tw xs ls tl a b sc → Calls Try.prog 20 #[.agg #[.slice tw.a tw.n tw.cap, .int .i64 tw.eLo, .int .i64 tw.eHi, .int .i64 tw.images, .int .i64 tw.eyes, .int .i64 tw.hLo, .int .i64 tw.hHi, .slice tw.la tw.ln tw.lcap]] Y (Ret (.tuple #[.int .i64 s', .int .i64 c]) Y)) := fun Y hY => by
        have := sure_any tw xs tl Y hY.bx.has
        rw [TF'.out.fs'] at this; exact this
      have HC7 : Hid (∀ Y, TT Y w.heap.size g h tw xs ls tl a b sc → Calls Try.prog 26 #[.agg #[.slice h.a h.n h.cap, .int .i64 h.eLo, .int .i64 h.eHi, .int .i64 h.images, .int .i64 h.eyes, .int .i64 h.hLo, .int .i64 h.hHi, .slice h.la h.ln h.lcap]] Y (Ret (.tuple #[.int .i64 xp, .int .i64 cx]) Y)) := fun Y hY => by
        have := explain_any h xs ls Y hY.bw.has
        rw [TF'.out.fx] at this; exact this
      have HC8 : Hid (∀ Y, TT Y w.heap.size g h tw xs ls tl a b sc → Calls Try.prog 26 #[.agg #[.slice tw.a tw.n tw.cap, .int .i64 tw.eLo, .int .i64 tw.eHi, .int .i64 tw.images, .int .i64 tw.eyes, .int .i64 tw.hLo, .int .i64 tw.hHi, .slice tw.la tw.ln tw.lcap]] Y (Ret (.tuple #[.int .i64 xq, .int .i64 cx]) Y)) := fun Y hY => by
        have := explain_any tw xs tl Y hY.bx.has
        rw [TF'.out.fx'] at this; exact this
      have HZ1 := Lib.hid (sizeR_any W TF'.out.rg.1.1)
      have HZ2 := Lib.hid (sizeR_any W' TF'.out.rg.1.2.1)
      have HZ3 := Lib.hid (sizeR_any D TF'.out.rg.1.2.2.1)
      have HZ4 := Lib.hid (sizeR_any D' TF'.out.rg.1.2.2.2)
      have HZ5 := Lib.hid (sizeR_any xp TF'.out.rg.2.1)
      have HZ6 := Lib.hid (sizeR_any xq TF'.out.rg.2.2.1)
      rw [← TF'.out.ps.1] at HZ2
      rw [← TF'.out.ps.2.1] at HZ4
      rw [← TF'.out.ps.2.2] at HZ6
      generalize popc W = pw at HZ1 HZ2
      generalize popc D = pd at HZ3 HZ4
      generalize popc xp = px at HZ5 HZ6
      obtain ⟨⟨c0, c1, c2, c3, c4, c5, c6, c7⟩, hh⟩ := HT.out.bw
      clear hh
      go_wp2_with fail
      refine (HC1.out _ HT.out).mono ?_
      rintro e z1 ⟨rfl, hz⟩
      have hBz := BT hBz hz
      have HT := Lib.hid (HT.out.grown hz)
      clear hz c0 c1 c2 c3 c4 c5 c6 c7 HC1
      go_upto_region 15 with fail
      obtain ⟨⟨c0, c1, c2, c3, c4, c5, c6, c7⟩, hh⟩ := HT.out.bx
      clear hh
      go_wp2_with fail
      refine (HC2.out _ HT.out).mono ?_
      rintro e z2 ⟨rfl, hz⟩
      have hBz := BT hBz hz
      have HT := Lib.hid (HT.out.grown hz)
      clear hz c0 c1 c2 c3 c4 c5 c6 c7 HC2
      go_upto_region 16 with fail
      obtain ⟨⟨c0, c1, c2, c3, c4, c5, c6, c7⟩, hh⟩ := HT.out.bw
      clear hh
      go_wp2_with fail
      refine (HC3.out _ HT.out).mono ?_
      rintro e z3 ⟨rfl, hz⟩
      have hBz := BT hBz hz
      have HT := Lib.hid (HT.out.grown hz)
      clear hz c0 c1 c2 c3 c4 c5 c6 c7 HC3
      go_upto_region 17 with fail
      obtain ⟨⟨c0, c1, c2, c3, c4, c5, c6, c7⟩, hh⟩ := HT.out.bx
      clear hh
      go_wp2_with fail
      refine (HC4.out _ HT.out).mono ?_
      rintro e z4 ⟨rfl, hz⟩
      have hBz := BT hBz hz
      have HT := Lib.hid (HT.out.grown hz)
      clear hz c0 c1 c2 c3 c4 c5 c6 c7 HC4
      go_upto_region 18 with fail
      obtain ⟨⟨c0, c1, c2, c3, c4, c5, c6, c7⟩, hh⟩ := HT.out.bw
      clear hh
      go_wp2_with fail
      refine (HC5.out _ HT.out).mono ?_
      rintro e z5 ⟨rfl, hz⟩
      have hBz := BT hBz hz
      have HT := Lib.hid (HT.out.grown hz)
      clear hz c0 c1 c2 c3 c4 c5 c6 c7 HC5
      go_upto_region 19 with fail
      obtain ⟨⟨c0, c1, c2, c3, c4, c5, c6, c7⟩, hh⟩ := HT.out.bx
      clear hh
      go_wp2_with fail
      refine (HC6.out _ HT.out).mono ?_
      rintro e z6 ⟨rfl, hz⟩
      have hBz := BT hBz hz
      have HT := Lib.hid (HT.out.grown hz)
      clear hz c0 c1 c2 c3 c4 c5 c6 c7 HC6
      go_upto_region 20 with fail
      obtain ⟨⟨c0, c1, c2, c3, c4, c5, c6, c7⟩, hh⟩ := HT.out.bw
      clear hh
      go_wp2_with fail
      refine (HC7.out _ HT.out).mono ?_
      rintro e z7 ⟨rfl, hz⟩
      have hBz := BT hBz hz
      have HT := Lib.hid (HT.out.grown hz)
      clear hz c0 c1 c2 c3 c4 c5 c6 c7 HC7
      go_upto_region 21 with fail
      obtain ⟨⟨c0, c1, c2, c3, c4, c5, c6, c7⟩, hh⟩ := HT.out.bx
      clear hh
      go_wp2_with fail
      refine (HC8.out _ HT.out).mono ?_
      rintro e z8 ⟨rfl, hz⟩
      have hBz := BT hBz hz
      have HT := Lib.hid (HT.out.grown hz)
      clear hz c0 c1 c2 c3 c4 c5 c6 c7 HC8
      go_upto_region 22 with fail
      go_wp2_with fail
      refine (HZ1.out _).mono ?_
      rintro e z9 ⟨rfl, hz⟩
      have hBz := BT hBz hz
      have HT := Lib.hid (HT.out.grown hz)
      clear hz HZ1
      go_wp2_with fail
      refine (HZ2.out _).mono ?_
      rintro e z10 ⟨rfl, hz⟩
      have hBz := BT hBz hz
      have HT := Lib.hid (HT.out.grown hz)
      clear hz HZ2
      go_wp2_with fail
      refine (HZ3.out _).mono ?_
      rintro e z11 ⟨rfl, hz⟩
      have hBz := BT hBz hz
      have HT := Lib.hid (HT.out.grown hz)
      clear hz HZ3
      go_wp2_with fail
      refine (HZ4.out _).mono ?_
      rintro e z12 ⟨rfl, hz⟩
      have hBz := BT hBz hz
      have HT := Lib.hid (HT.out.grown hz)
      clear hz HZ4
      go_wp2_with fail
      refine (HZ5.out _).mono ?_
      rintro e z13 ⟨rfl, hz⟩
      have hBz := BT hBz hz
      have HT := Lib.hid (HT.out.grown hz)
      clear hz HZ5
      go_wp2_with fail
      refine (HZ6.out _).mono ?_
      rintro e z14 ⟨rfl, hz⟩
      have hBz := BT hBz hz
      have HT := Lib.hid (HT.out.grown hz)
      clear hz HZ6
      have c4 := HT.out.bw.box.c4
      rw [HE.out] at c4
      go_upto_region 26 with fail
      clear c4
      go_loopw [183] (fun p wr => ∃ k : Nat, k ≤ E ∧ p = .int .i64 k ∧ TT wr w.heap.size g h tw xs ls tl a b sc ∧ Below w.heap.size w wr) (fun p _ => E - (intOf p).toNat)
      case atStart => exact ⟨0, by omega, rfl, HT.out, hBz⟩
      case round =>
        obtain ⟨k, hk, rfl, hT, hBz⟩ := hrel
        have HT := Lib.hid hT
        clear hT
        by_cases hlt : k < E
        · skip
          have hlt' : (k : Int) < (E : Int) := by omega
          have hk0 : (0 : Int) ≤ (k : Int) := by omega
          obtain ⟨q1, q2, c1, hq, hq'⟩ := TF'.out.hb k hlt
          obtain ⟨r1, r2, c2, hr, hr'⟩ := TF'.out.bt k hlt
          have hsb := TF'.out.sb k hlt
          have hk4 : k < 4 := by have := HE1.out; omega
          have hqE : (k + a) % E < 4 := by have := Nat.mod_lt (k + a) (show 0 < E by have := HE1.out; omega); have := HE1.out; omega
          have HW1 := Lib.hid (fun Y (hY : TT Y w.heap.size g h tw xs ls tl a b sc) => who_any w.heap.size h E a k Y HE.out HE1.out.1 (by omega) ha hY.bw.box hY.ca)
          have HW2 := Lib.hid (fun Y (hY : TT Y w.heap.size g h tw xs ls tl a b sc) => who_any w.heap.size h E a 0 Y HE.out HE1.out.1 (by omega) ha hY.bw.box hY.ca)
          generalize (k + a) % E = q at hq' hr' hsb hqE HW1
          generalize (0 + a) % E = q0 at hr' HW2
          have HW : Hid (∀ Y, TT Y w.heap.size g h tw xs ls tl a b sc → Calls Try.prog 38 #[.int .i64 k, .pointer (some ⟨w.heap.size + 1, 0, none⟩), .pointer (some ⟨w.heap.size, 0, none⟩)] Y (Ret (.int .i64 q) Y)) := fun Y hY => by
            exact HW1.out Y hY
          have HW0 : Hid (∀ Y, TT Y w.heap.size g h tw xs ls tl a b sc → Calls Try.prog 38 #[.int .i64 0, .pointer (some ⟨w.heap.size + 1, 0, none⟩), .pointer (some ⟨w.heap.size, 0, none⟩)] Y (Ret (.int .i64 q0) Y)) := fun Y hY => by
            exact HW2.out Y hY
          have HH1 : Hid (∀ Y, TT Y w.heap.size g h tw xs ls tl a b sc → Calls Try.prog 14 #[.agg #[.slice h.a h.n h.cap, .int .i64 h.eLo, .int .i64 h.eHi, .int .i64 h.images, .int .i64 h.eyes, .int .i64 h.hLo, .int .i64 h.hHi, .slice h.la h.ln h.lcap], .int .i64 k] Y (Ret (.tuple #[.agg #[.int .i64 q1, .int .i64 q2], .int .i64 c1]) Y)) := fun Y hY => by
            have := habit_any k h xs ls Y hY.bw.has
            rw [hq] at this; exact this
          have HH2 : Hid (∀ Y, TT Y w.heap.size g h tw xs ls tl a b sc → Calls Try.prog 14 #[.agg #[.slice tw.a tw.n tw.cap, .int .i64 tw.eLo, .int .i64 tw.eHi, .int .i64 tw.images, .int .i64 tw.eyes, .int .i64 tw.hLo, .int .i64 tw.hHi, .slice tw.la tw.ln tw.lcap], .int .i64 q] Y (Ret (.tuple #[.agg #[.int .i64 q1, .int .i64 q2], .int .i64 c1]) Y)) := fun Y hY => by
            have := habit_any q tw xs tl Y hY.bx.has
            rw [hq'] at this; exact this
          have HB1 : Hid (∀ Y, TT Y w.heap.size g h tw xs ls tl a b sc → Calls Try.prog 16 #[.agg #[.slice h.a h.n h.cap, .int .i64 h.eLo, .int .i64 h.eHi, .int .i64 h.images, .int .i64 h.eyes, .int .i64 h.hLo, .int .i64 h.hHi, .slice h.la h.ln h.lcap], .int .i64 0, .int .i64 k] Y (Ret (.tuple #[.agg #[.int .i64 r1, .int .i64 r2], .int .i64 c2]) Y)) := fun Y hY => by
            have := between_any 0 k h xs ls Y hY.bw.has
            rw [hr] at this; exact this
          have HB2 : Hid (∀ Y, TT Y w.heap.size g h tw xs ls tl a b sc → Calls Try.prog 16 #[.agg #[.slice tw.a tw.n tw.cap, .int .i64 tw.eLo, .int .i64 tw.eHi, .int .i64 tw.images, .int .i64 tw.eyes, .int .i64 tw.hLo, .int .i64 tw.hHi, .slice tw.la tw.ln tw.lcap], .int .i64 q0, .int .i64 q] Y (Ret (.tuple #[.agg #[.int .i64 r1, .int .i64 r2], .int .i64 c2]) Y)) := fun Y hY => by
            have := between_any q0 q tw xs tl Y hY.bx.has
            rw [hr'] at this; exact this
          have hs4 := TF'.out.rg.2.2.2
          have hd : ∀ (x : Int) (n : Nat), 0 ≤ x ∧ x < 16 → 0 ≤ x / 2 ^ n ∧ x / 2 ^ n < 16 := fun x n hx => by
            have h2 : (0 : Int) < 2 ^ n := Int.pow_pos (by decide)
            exact ⟨Int.ediv_nonneg hx.1 (by omega), Int.lt_of_le_of_lt (Int.ediv_le_self _ hx.1) hx.2⟩
          have a1 := and_one12 (x := s / 2 ^ k) (by have := hd s k hs4.1; omega)
          have a2 := and_one12 (x := s' / 2 ^ q) (by have := hd s' q hs4.2; omega)
          rw [← hsb] at a2
          generalize s / 2 ^ k % 2 = t at a1 a2
          clear hd hs4 hsb hq hq' hr hr' HW1 HW2
          have HA1 := Lib.hid a1
          have HA2 := Lib.hid a2
          clear a1 a2
          obtain ⟨⟨c0, c1', c2', c3, c4, c5, c6, c7⟩, hh⟩ := HT.out.bw
          clear hh
          go_wp2_with fail
          refine (HH1.out _ HT.out).mono ?_
          rintro e x1 ⟨rfl, hx1⟩
          clear c0 c1' c2' c3 c4 c5 c6 c7 HH1
          have hZ := BT hx1 (newB x1 (.cells #[.int .i64 q1, .int .i64 q2] 24))
          have HT32 := Lib.hid (show Two x1.heap.size q1 q2 (x1.alloc (.cells #[.int .i64 q1, .int .i64 q2] 24)) from two_newT x1 _ _ _)
          go_upto_region 29 with fail
          generalize x1.heap.size = g32 at HT32 ⊢
          generalize x1.alloc (.cells #[.int .i64 q1, .int .i64 q2] 24) = u1 at hZ HT32 ⊢
          have hBz := BT hBz hZ
          have HT := Lib.hid (HT.out.grown hZ)
          clear hZ hx1
          have hSG : Hid (∀ X0, Below u1.heap.size u1 X0 → X0.cell? ⟨g, 0, none⟩ = some (.slice tw.a tw.n tw.cap) ∧ X0.cell? ⟨g, 1, none⟩ = some (.int .i64 tw.eLo) ∧ X0.cell? ⟨g, 2, none⟩ = some (.int .i64 tw.eHi) ∧ X0.cell? ⟨g, 3, none⟩ = some (.int .i64 tw.images) ∧ X0.cell? ⟨g, 4, none⟩ = some (.int .i64 tw.eyes) ∧ X0.cell? ⟨g, 5, none⟩ = some (.int .i64 tw.hLo) ∧ X0.cell? ⟨g, 6, none⟩ = some (.int .i64 tw.hHi) ∧ X0.cell? ⟨g, 7, none⟩ = some (.slice tw.la tw.ln tw.lcap)) := fun X0 hX => by
            obtain ⟨⟨i0, i1, i2, i3, i4, i5, i6, i7⟩, _⟩ := (HT.out.grown hX).bx
            exact ⟨i0, i1, i2, i3, i4, i5, i6, i7⟩
          have HWa : Hid (∀ Y, Below u1.heap.size u1 Y → Calls Try.prog 38 #[.int .i64 k, .pointer (some ⟨w.heap.size + 1, 0, none⟩), .pointer (some ⟨w.heap.size, 0, none⟩)] Y (Ret (.int .i64 q) Y)) := fun Y hY => HW.out Y (HT.out.grown hY)
          have HHa : Hid (∀ Y, Below u1.heap.size u1 Y → Calls Try.prog 14 #[.agg #[.slice tw.a tw.n tw.cap, .int .i64 tw.eLo, .int .i64 tw.eHi, .int .i64 tw.images, .int .i64 tw.eyes, .int .i64 tw.hLo, .int .i64 tw.hHi, .slice tw.la tw.ln tw.lcap], .int .i64 q] Y (Ret (.tuple #[.agg #[.int .i64 q1, .int .i64 q2], .int .i64 c1]) Y)) := fun Y hY => HH2.out Y (HT.out.grown hY)
          have hB0 : Below u1.heap.size u1 u1.drew := Below.drew (Below.refl _ _)
          go_cut [34, 35] from 192 to 199 (fun ap aq X => ∃ gp : Nat, ap = .pointer (some ⟨gp, 0, none⟩) ∧ aq = .int .i64 c1 ∧ Two gp q1 q2 X ∧ Below u1.heap.size u1 X)
          case first =>
            refine wp_region_tree (.read 0 (.read 1 (.read 2 (.two 3 (.two 4 (.read 5 (.read 6 (.read 7 (.one 8 (.one 9 (.read 10 (.leaf))))))) 8 (.one 4 (.read 5 (.read 6 (.read 7 (.one 9 (.read 10 (.leaf)))))))) 8 (.one 3 (.one 4 (.read 5 (.read 6 (.read 7 (.one 9 (.read 10 (.leaf)))))))))))) (fun w' => w'.cell? ⟨g, 0, none⟩ = some (.slice tw.a tw.n tw.cap) ∧ w'.cell? ⟨g, 1, none⟩ = some (.int .i64 tw.eLo) ∧ w'.cell? ⟨g, 2, none⟩ = some (.int .i64 tw.eHi) ∧ w'.cell? ⟨g, 3, none⟩ = some (.int .i64 tw.images) ∧ w'.cell? ⟨g, 4, none⟩ = some (.int .i64 tw.eyes) ∧ w'.cell? ⟨g, 5, none⟩ = some (.int .i64 tw.hLo) ∧ w'.cell? ⟨g, 6, none⟩ = some (.int .i64 tw.hHi) ∧ w'.cell? ⟨g, 7, none⟩ = some (.slice tw.la tw.ln tw.lcap)) (by kernel_rfl) (by kernel_rfl) (fun _ _ d _ _ h => by cases d <;> exact h) (hSG.out _ hB0) ?_
            generalize u1.drew = X0 at hB0 ⊢
            repeat (first | (refine tr_read rfl (by rfl) _ (fun w' hS => by (try dsimp only at hS); go_simp; (try with_reducible rfl)) ?_; (try simp only [Act.put, List.setIfInBounds_toArray, List.set_cons_zero, List.set_cons_succ])) | (refine tr_skip rfl (by rfl) ?_; (try simp only [Act.put, List.setIfInBounds_toArray, List.set_cons_zero, List.set_cons_succ])))
            refine ⟨?_, ?_⟩
            · skip
              refine tr_step rfl (by rfl) (fun K hK => ?_)
              go_simp
              refine (HWa.out X0 hB0).mono ?_
              rintro e X1 ⟨rfl, hb1⟩
              have hB1 := BT hB0 hb1
              refine hK _ _ (hSG.out _ hB1) ?_
              clear hK K hB0 hb1
              (try simp only [Act.put, List.setIfInBounds_toArray, List.set_cons_zero, List.set_cons_succ])
              refine ⟨?_, ?_⟩
              · skip
                refine tr_step rfl (by rfl) (fun K hK => ?_)
                go_simp
                refine (HHa.out X1 hB1).mono ?_
                rintro e X2 ⟨rfl, hb2⟩
                have hB2 := BT hB1 hb2
                refine hK _ _ (hSG.out _ hB2) ?_
                clear hK K hB1 hb2
                (try simp only [Act.put, List.setIfInBounds_toArray, List.set_cons_zero, List.set_cons_succ])
                repeat (first | (refine tr_read rfl (by rfl) _ (fun w' hS => by (try dsimp only at hS); go_simp; (try with_reducible rfl)) ?_; (try simp only [Act.put, List.setIfInBounds_toArray, List.set_cons_zero, List.set_cons_succ])) | (refine tr_skip rfl (by rfl) ?_; (try simp only [Act.put, List.setIfInBounds_toArray, List.set_cons_zero, List.set_cons_succ])))
                refine tr_step rfl (by rfl) (fun K hK => ?_)
                have hB3 := BA hB2 (.cells #[.int .i64 0, .int .i64 0] 24)
                have h8_3 := slots_new2 X2 24
                have hg8 := hB2.size
                go_simp
                generalize X2.heap.size = g8 at *
                generalize X2.alloc (.cells #[.int .i64 0, .int .i64 0] 24) = X3 at *
                refine hK _ _ (hSG.out _ hB3) ?_
                clear hK K hB2 
                (try simp only [Act.put, List.setIfInBounds_toArray, List.set_cons_zero, List.set_cons_succ])
                refine tr_step rfl (by rfl) (fun K hK => ?_)
                obtain ⟨u0_4, q0_4, f0_4⟩ := h8_3.get 0 (by omega)
                obtain ⟨u1_4, q1_4, f1_4⟩ := h8_3.get 1 (by omega)
                have hB4 := BC (BC hB3 g8 0 hg8 (.int .i64 (q1))) g8 1 hg8 (.int .i64 (q2))
                have h8_4 := two_set h8_3 (q1) (q2)
                go_simp
                clear q0_4 f0_4 q1_4 f1_4
                generalize (X3.setCell ⟨g8, 0, none⟩ (.int .i64 (q1))).setCell ⟨g8, 1, none⟩ (.int .i64 (q2)) = X4 at *
                refine hK _ _ (hSG.out _ hB4) ?_
                clear hK K hB3 h8_3
                (try simp only [Act.put, List.setIfInBounds_toArray, List.set_cons_zero, List.set_cons_succ])
                repeat (first | (refine tr_read rfl (by rfl) _ (fun w' hS => by (try dsimp only at hS); go_simp; (try with_reducible rfl)) ?_; (try simp only [Act.put, List.setIfInBounds_toArray, List.set_cons_zero, List.set_cons_succ])) | (refine tr_skip rfl (by rfl) ?_; (try simp only [Act.put, List.setIfInBounds_toArray, List.set_cons_zero, List.set_cons_succ])))
                show Exit.then _ _ Exit.normal _ _
                go_wp2_with fail
                go_meet
                exact ⟨g8, rfl, rfl, h8_4, hB4⟩
              · skip
                refine tr_step rfl (by rfl) (fun K hK => ?_)
                have hB5 := BA hB1 (.cells #[.int .i64 0, .int .i64 0] 24)
                have h8_5 := slots_new2 X1 24
                have hg8 := hB1.size
                go_simp
                generalize X1.heap.size = g8 at *
                generalize X1.alloc (.cells #[.int .i64 0, .int .i64 0] 24) = X5 at *
                refine hK _ _ (hSG.out _ hB5) ?_
                clear hK K hB1 
                (try simp only [Act.put, List.setIfInBounds_toArray, List.set_cons_zero, List.set_cons_succ])
                refine tr_step rfl (by rfl) (fun K hK => ?_)
                go_simp
                refine (HHa.out X5 hB5).mono ?_
                rintro e X6 ⟨rfl, hb6⟩
                have hB6 := BT hB5 hb6
                have h8_6 := h8_5.below hb6 (h8_5.lt2)
                refine hK _ _ (hSG.out _ hB6) ?_
                clear hK K hB5 h8_5 hb6
                (try simp only [Act.put, List.setIfInBounds_toArray, List.set_cons_zero, List.set_cons_succ])
                repeat (first | (refine tr_read rfl (by rfl) _ (fun w' hS => by (try dsimp only at hS); go_simp; (try with_reducible rfl)) ?_; (try simp only [Act.put, List.setIfInBounds_toArray, List.set_cons_zero, List.set_cons_succ])) | (refine tr_skip rfl (by rfl) ?_; (try simp only [Act.put, List.setIfInBounds_toArray, List.set_cons_zero, List.set_cons_succ])))
                refine tr_step rfl (by rfl) (fun K hK => ?_)
                obtain ⟨u0_7, q0_7, f0_7⟩ := h8_6.get 0 (by omega)
                obtain ⟨u1_7, q1_7, f1_7⟩ := h8_6.get 1 (by omega)
                have hB7 := BC (BC hB6 g8 0 hg8 (.int .i64 (q1))) g8 1 hg8 (.int .i64 (q2))
                have h8_7 := two_set h8_6 (q1) (q2)
                go_simp
                clear q0_7 f0_7 q1_7 f1_7
                generalize (X6.setCell ⟨g8, 0, none⟩ (.int .i64 (q1))).setCell ⟨g8, 1, none⟩ (.int .i64 (q2)) = X7 at *
                refine hK _ _ (hSG.out _ hB7) ?_
                clear hK K hB6 h8_6
                (try simp only [Act.put, List.setIfInBounds_toArray, List.set_cons_zero, List.set_cons_succ])
                repeat (first | (refine tr_read rfl (by rfl) _ (fun w' hS => by (try dsimp only at hS); go_simp; (try with_reducible rfl)) ?_; (try simp only [Act.put, List.setIfInBounds_toArray, List.set_cons_zero, List.set_cons_succ])) | (refine tr_skip rfl (by rfl) ?_; (try simp only [Act.put, List.setIfInBounds_toArray, List.set_cons_zero, List.set_cons_succ])))
                show Exit.then _ _ Exit.normal _ _
                go_wp2_with fail
                go_meet
                exact ⟨g8, rfl, rfl, h8_7, hB7⟩
            · skip
              refine tr_step rfl (by rfl) (fun K hK => ?_)
              have hB8 := BA hB0 (.cells #[.int .i64 0, .int .i64 0] 24)
              have h8_8 := slots_new2 X0 24
              have hg8 := hB0.size
              go_simp
              generalize X0.heap.size = g8 at *
              generalize X0.alloc (.cells #[.int .i64 0, .int .i64 0] 24) = X8 at *
              refine hK _ _ (hSG.out _ hB8) ?_
              clear hK K hB0 
              (try simp only [Act.put, List.setIfInBounds_toArray, List.set_cons_zero, List.set_cons_succ])
              refine tr_step rfl (by rfl) (fun K hK => ?_)
              go_simp
              refine (HWa.out X8 hB8).mono ?_
              rintro e X9 ⟨rfl, hb9⟩
              have hB9 := BT hB8 hb9
              have h8_9 := h8_8.below hb9 (h8_8.lt2)
              refine hK _ _ (hSG.out _ hB9) ?_
              clear hK K hB8 h8_8 hb9
              (try simp only [Act.put, List.setIfInBounds_toArray, List.set_cons_zero, List.set_cons_succ])
              refine tr_step rfl (by rfl) (fun K hK => ?_)
              go_simp
              refine (HHa.out X9 hB9).mono ?_
              rintro e X10 ⟨rfl, hb10⟩
              have hB10 := BT hB9 hb10
              have h8_10 := h8_9.below hb10 (h8_9.lt2)
              refine hK _ _ (hSG.out _ hB10) ?_
              clear hK K hB9 h8_9 hb10
              (try simp only [Act.put, List.setIfInBounds_toArray, List.set_cons_zero, List.set_cons_succ])
              repeat (first | (refine tr_read rfl (by rfl) _ (fun w' hS => by (try dsimp only at hS); go_simp; (try with_reducible rfl)) ?_; (try simp only [Act.put, List.setIfInBounds_toArray, List.set_cons_zero, List.set_cons_succ])) | (refine tr_skip rfl (by rfl) ?_; (try simp only [Act.put, List.setIfInBounds_toArray, List.set_cons_zero, List.set_cons_succ])))
              refine tr_step rfl (by rfl) (fun K hK => ?_)
              obtain ⟨u0_11, q0_11, f0_11⟩ := h8_10.get 0 (by omega)
              obtain ⟨u1_11, q1_11, f1_11⟩ := h8_10.get 1 (by omega)
              have hB11 := BC (BC hB10 g8 0 hg8 (.int .i64 (q1))) g8 1 hg8 (.int .i64 (q2))
              have h8_11 := two_set h8_10 (q1) (q2)
              go_simp
              clear q0_11 f0_11 q1_11 f1_11
              generalize (X10.setCell ⟨g8, 0, none⟩ (.int .i64 (q1))).setCell ⟨g8, 1, none⟩ (.int .i64 (q2)) = X11 at *
              refine hK _ _ (hSG.out _ hB11) ?_
              clear hK K hB10 h8_10
              (try simp only [Act.put, List.setIfInBounds_toArray, List.set_cons_zero, List.set_cons_succ])
              repeat (first | (refine tr_read rfl (by rfl) _ (fun w' hS => by (try dsimp only at hS); go_simp; (try with_reducible rfl)) ?_; (try simp only [Act.put, List.setIfInBounds_toArray, List.set_cons_zero, List.set_cons_succ])) | (refine tr_skip rfl (by rfl) ?_; (try simp only [Act.put, List.setIfInBounds_toArray, List.set_cons_zero, List.set_cons_succ])))
              show Exit.then _ _ Exit.normal _ _
              go_wp2_with fail
              go_meet
              exact ⟨g8, rfl, rfl, h8_11, hB11⟩
          case rest =>
          obtain ⟨g34, rfl, rfl, hp, hbc⟩ := hcut
          obtain ⟨u2, rfl⟩ : ∃ u2 : World, u2 = wc := ⟨_, rfl⟩
          have HT34 := Lib.hid hp
          have HT32 := Lib.hid (HT32.out.grown hbc)
          have hBz := BT hBz hbc
          have HT := Lib.hid (HT.out.grown hbc)
          clear hp hbc hSG hB0 HWa HHa
          obtain ⟨⟨c0, c1', c2', c3, c4, c5, c6, c7⟩, hh⟩ := HT.out.bw
          clear hh
          go_wp2_with fail
          refine (HB1.out _ HT.out).mono ?_
          rintro e x1 ⟨rfl, hx1⟩
          clear c0 c1' c2' c3 c4 c5 c6 c7 HB1
          have hZ := BT hx1 (newB x1 (.cells #[.int .i64 r1, .int .i64 r2] 24))
          have HT36 := Lib.hid (show Two x1.heap.size r1 r2 (x1.alloc (.cells #[.int .i64 r1, .int .i64 r2] 24)) from two_newT x1 _ _ _)
          go_upto_region 31 with fail
          generalize x1.heap.size = g36 at HT36 ⊢
          generalize x1.alloc (.cells #[.int .i64 r1, .int .i64 r2] 24) = u3 at hZ HT36 ⊢
          have hBz := BT hBz hZ
          have HT := Lib.hid (HT.out.grown hZ)
          have HT32 := Lib.hid (HT32.out.grown hZ)
          have HT34 := Lib.hid (HT34.out.grown hZ)
          clear hZ hx1
          have hSG : Hid (∀ X0, Below u3.heap.size u3 X0 → X0.cell? ⟨g, 0, none⟩ = some (.slice tw.a tw.n tw.cap) ∧ X0.cell? ⟨g, 1, none⟩ = some (.int .i64 tw.eLo) ∧ X0.cell? ⟨g, 2, none⟩ = some (.int .i64 tw.eHi) ∧ X0.cell? ⟨g, 3, none⟩ = some (.int .i64 tw.images) ∧ X0.cell? ⟨g, 4, none⟩ = some (.int .i64 tw.eyes) ∧ X0.cell? ⟨g, 5, none⟩ = some (.int .i64 tw.hLo) ∧ X0.cell? ⟨g, 6, none⟩ = some (.int .i64 tw.hHi) ∧ X0.cell? ⟨g, 7, none⟩ = some (.slice tw.la tw.ln tw.lcap)) := fun X0 hX => by
            obtain ⟨⟨i0, i1, i2, i3, i4, i5, i6, i7⟩, _⟩ := (HT.out.grown hX).bx
            exact ⟨i0, i1, i2, i3, i4, i5, i6, i7⟩
          have HWb : Hid (∀ Y, Below u3.heap.size u3 Y → Calls Try.prog 38 #[.int .i64 0, .pointer (some ⟨w.heap.size + 1, 0, none⟩), .pointer (some ⟨w.heap.size, 0, none⟩)] Y (Ret (.int .i64 q0) Y)) := fun Y hY => HW0.out Y (HT.out.grown hY)
          have HWa : Hid (∀ Y, Below u3.heap.size u3 Y → Calls Try.prog 38 #[.int .i64 k, .pointer (some ⟨w.heap.size + 1, 0, none⟩), .pointer (some ⟨w.heap.size, 0, none⟩)] Y (Ret (.int .i64 q) Y)) := fun Y hY => HW.out Y (HT.out.grown hY)
          have HBa : Hid (∀ Y, Below u3.heap.size u3 Y → Calls Try.prog 16 #[.agg #[.slice tw.a tw.n tw.cap, .int .i64 tw.eLo, .int .i64 tw.eHi, .int .i64 tw.images, .int .i64 tw.eyes, .int .i64 tw.hLo, .int .i64 tw.hHi, .slice tw.la tw.ln tw.lcap], .int .i64 q0, .int .i64 q] Y (Ret (.tuple #[.agg #[.int .i64 r1, .int .i64 r2], .int .i64 c2]) Y)) := fun Y hY => HB2.out Y (HT.out.grown hY)
          have hB0 : Below u3.heap.size u3 u3.drew := Below.drew (Below.refl _ _)
          go_cut [38, 39] from 206 to 215 (fun ap aq X => ∃ gp : Nat, ap = .pointer (some ⟨gp, 0, none⟩) ∧ aq = .int .i64 c2 ∧ Two gp r1 r2 X ∧ Below u3.heap.size u3 X)
          case first =>
            refine wp_region_tree (.read 0 (.read 1 (.read 3 (.read 4 (.two 2 (.two 5 (.two 6 (.read 7 (.read 8 (.read 9 (.one 10 (.one 11 (.read 12 (.leaf))))))) 10 (.one 6 (.read 7 (.read 8 (.read 9 (.one 11 (.read 12 (.leaf)))))))) 10 (.one 5 (.one 6 (.read 7 (.read 8 (.read 9 (.one 11 (.read 12 (.leaf))))))))) 10 (.one 2 (.one 5 (.one 6 (.read 7 (.read 8 (.read 9 (.one 11 (.read 12 (.leaf)))))))))))))) (fun w' => w'.cell? ⟨g, 0, none⟩ = some (.slice tw.a tw.n tw.cap) ∧ w'.cell? ⟨g, 1, none⟩ = some (.int .i64 tw.eLo) ∧ w'.cell? ⟨g, 2, none⟩ = some (.int .i64 tw.eHi) ∧ w'.cell? ⟨g, 3, none⟩ = some (.int .i64 tw.images) ∧ w'.cell? ⟨g, 4, none⟩ = some (.int .i64 tw.eyes) ∧ w'.cell? ⟨g, 5, none⟩ = some (.int .i64 tw.hLo) ∧ w'.cell? ⟨g, 6, none⟩ = some (.int .i64 tw.hHi) ∧ w'.cell? ⟨g, 7, none⟩ = some (.slice tw.la tw.ln tw.lcap)) (by kernel_rfl) (by kernel_rfl) (fun _ _ d _ _ h => by cases d <;> exact h) (hSG.out _ hB0) ?_
            generalize u3.drew = X0 at hB0 ⊢
            repeat (first | (refine tr_read rfl (by rfl) _ (fun w' hS => by (try dsimp only at hS); go_simp; (try with_reducible rfl)) ?_; (try simp only [Act.put, List.setIfInBounds_toArray, List.set_cons_zero, List.set_cons_succ])) | (refine tr_skip rfl (by rfl) ?_; (try simp only [Act.put, List.setIfInBounds_toArray, List.set_cons_zero, List.set_cons_succ])))
            refine ⟨?_, ?_⟩
            · skip
              refine tr_step rfl (by rfl) (fun K hK => ?_)
              go_simp
              refine (HWb.out X0 hB0).mono ?_
              rintro e X1 ⟨rfl, hb1⟩
              have hB1 := BT hB0 hb1
              refine hK _ _ (hSG.out _ hB1) ?_
              clear hK K hB0 hb1
              (try simp only [Act.put, List.setIfInBounds_toArray, List.set_cons_zero, List.set_cons_succ])
              refine ⟨?_, ?_⟩
              · skip
                refine tr_step rfl (by rfl) (fun K hK => ?_)
                go_simp
                refine (HWa.out X1 hB1).mono ?_
                rintro e X2 ⟨rfl, hb2⟩
                have hB2 := BT hB1 hb2
                refine hK _ _ (hSG.out _ hB2) ?_
                clear hK K hB1 hb2
                (try simp only [Act.put, List.setIfInBounds_toArray, List.set_cons_zero, List.set_cons_succ])
                refine ⟨?_, ?_⟩
                · skip
                  refine tr_step rfl (by rfl) (fun K hK => ?_)
                  go_simp
                  refine (HBa.out X2 hB2).mono ?_
                  rintro e X3 ⟨rfl, hb3⟩
                  have hB3 := BT hB2 hb3
                  refine hK _ _ (hSG.out _ hB3) ?_
                  clear hK K hB2 hb3
                  (try simp only [Act.put, List.setIfInBounds_toArray, List.set_cons_zero, List.set_cons_succ])
                  repeat (first | (refine tr_read rfl (by rfl) _ (fun w' hS => by (try dsimp only at hS); go_simp; (try with_reducible rfl)) ?_; (try simp only [Act.put, List.setIfInBounds_toArray, List.set_cons_zero, List.set_cons_succ])) | (refine tr_skip rfl (by rfl) ?_; (try simp only [Act.put, List.setIfInBounds_toArray, List.set_cons_zero, List.set_cons_succ])))
                  refine tr_step rfl (by rfl) (fun K hK => ?_)
                  have hB4 := BA hB3 (.cells #[.int .i64 0, .int .i64 0] 24)
                  have h10_4 := slots_new2 X3 24
                  have hg10 := hB3.size
                  go_simp
                  generalize X3.heap.size = g10 at *
                  generalize X3.alloc (.cells #[.int .i64 0, .int .i64 0] 24) = X4 at *
                  refine hK _ _ (hSG.out _ hB4) ?_
                  clear hK K hB3 
                  (try simp only [Act.put, List.setIfInBounds_toArray, List.set_cons_zero, List.set_cons_succ])
                  refine tr_step rfl (by rfl) (fun K hK => ?_)
                  obtain ⟨u0_5, q0_5, f0_5⟩ := h10_4.get 0 (by omega)
                  obtain ⟨u1_5, q1_5, f1_5⟩ := h10_4.get 1 (by omega)
                  have hB5 := BC (BC hB4 g10 0 hg10 (.int .i64 (r1))) g10 1 hg10 (.int .i64 (r2))
                  have h10_5 := two_set h10_4 (r1) (r2)
                  go_simp
                  clear q0_5 f0_5 q1_5 f1_5
                  generalize (X4.setCell ⟨g10, 0, none⟩ (.int .i64 (r1))).setCell ⟨g10, 1, none⟩ (.int .i64 (r2)) = X5 at *
                  refine hK _ _ (hSG.out _ hB5) ?_
                  clear hK K hB4 h10_4
                  (try simp only [Act.put, List.setIfInBounds_toArray, List.set_cons_zero, List.set_cons_succ])
                  repeat (first | (refine tr_read rfl (by rfl) _ (fun w' hS => by (try dsimp only at hS); go_simp; (try with_reducible rfl)) ?_; (try simp only [Act.put, List.setIfInBounds_toArray, List.set_cons_zero, List.set_cons_succ])) | (refine tr_skip rfl (by rfl) ?_; (try simp only [Act.put, List.setIfInBounds_toArray, List.set_cons_zero, List.set_cons_succ])))
                  show Exit.then _ _ Exit.normal _ _
                  go_wp2_with fail
                  go_meet
                  exact ⟨g10, rfl, rfl, h10_5, hB5⟩
                · skip
                  refine tr_step rfl (by rfl) (fun K hK => ?_)
                  have hB6 := BA hB2 (.cells #[.int .i64 0, .int .i64 0] 24)
                  have h10_6 := slots_new2 X2 24
                  have hg10 := hB2.size
                  go_simp
                  generalize X2.heap.size = g10 at *
                  generalize X2.alloc (.cells #[.int .i64 0, .int .i64 0] 24) = X6 at *
                  refine hK _ _ (hSG.out _ hB6) ?_
                  clear hK K hB2 
                  (try simp only [Act.put, List.setIfInBounds_toArray, List.set_cons_zero, List.set_cons_succ])
                  refine tr_step rfl (by rfl) (fun K hK => ?_)
                  go_simp
                  refine (HBa.out X6 hB6).mono ?_
                  rintro e X7 ⟨rfl, hb7⟩
                  have hB7 := BT hB6 hb7
                  have h10_7 := h10_6.below hb7 (h10_6.lt2)
                  refine hK _ _ (hSG.out _ hB7) ?_
                  clear hK K hB6 h10_6 hb7
                  (try simp only [Act.put, List.setIfInBounds_toArray, List.set_cons_zero, List.set_cons_succ])
                  repeat (first | (refine tr_read rfl (by rfl) _ (fun w' hS => by (try dsimp only at hS); go_simp; (try with_reducible rfl)) ?_; (try simp only [Act.put, List.setIfInBounds_toArray, List.set_cons_zero, List.set_cons_succ])) | (refine tr_skip rfl (by rfl) ?_; (try simp only [Act.put, List.setIfInBounds_toArray, List.set_cons_zero, List.set_cons_succ])))
                  refine tr_step rfl (by rfl) (fun K hK => ?_)
                  obtain ⟨u0_8, q0_8, f0_8⟩ := h10_7.get 0 (by omega)
                  obtain ⟨u1_8, q1_8, f1_8⟩ := h10_7.get 1 (by omega)
                  have hB8 := BC (BC hB7 g10 0 hg10 (.int .i64 (r1))) g10 1 hg10 (.int .i64 (r2))
                  have h10_8 := two_set h10_7 (r1) (r2)
                  go_simp
                  clear q0_8 f0_8 q1_8 f1_8
                  generalize (X7.setCell ⟨g10, 0, none⟩ (.int .i64 (r1))).setCell ⟨g10, 1, none⟩ (.int .i64 (r2)) = X8 at *
                  refine hK _ _ (hSG.out _ hB8) ?_
                  clear hK K hB7 h10_7
                  (try simp only [Act.put, List.setIfInBounds_toArray, List.set_cons_zero, List.set_cons_succ])
                  repeat (first | (refine tr_read rfl (by rfl) _ (fun w' hS => by (try dsimp only at hS); go_simp; (try with_reducible rfl)) ?_; (try simp only [Act.put, List.setIfInBounds_toArray, List.set_cons_zero, List.set_cons_succ])) | (refine tr_skip rfl (by rfl) ?_; (try simp only [Act.put, List.setIfInBounds_toArray, List.set_cons_zero, List.set_cons_succ])))
                  show Exit.then _ _ Exit.normal _ _
                  go_wp2_with fail
                  go_meet
                  exact ⟨g10, rfl, rfl, h10_8, hB8⟩
              · skip
                refine tr_step rfl (by rfl) (fun K hK => ?_)
                have hB9 := BA hB1 (.cells #[.int .i64 0, .int .i64 0] 24)
                have h10_9 := slots_new2 X1 24
                have hg10 := hB1.size
                go_simp
                generalize X1.heap.size = g10 at *
                generalize X1.alloc (.cells #[.int .i64 0, .int .i64 0] 24) = X9 at *
                refine hK _ _ (hSG.out _ hB9) ?_
                clear hK K hB1 
                (try simp only [Act.put, List.setIfInBounds_toArray, List.set_cons_zero, List.set_cons_succ])
                refine tr_step rfl (by rfl) (fun K hK => ?_)
                go_simp
                refine (HWa.out X9 hB9).mono ?_
                rintro e X10 ⟨rfl, hb10⟩
                have hB10 := BT hB9 hb10
                have h10_10 := h10_9.below hb10 (h10_9.lt2)
                refine hK _ _ (hSG.out _ hB10) ?_
                clear hK K hB9 h10_9 hb10
                (try simp only [Act.put, List.setIfInBounds_toArray, List.set_cons_zero, List.set_cons_succ])
                refine tr_step rfl (by rfl) (fun K hK => ?_)
                go_simp
                refine (HBa.out X10 hB10).mono ?_
                rintro e X11 ⟨rfl, hb11⟩
                have hB11 := BT hB10 hb11
                have h10_11 := h10_10.below hb11 (h10_10.lt2)
                refine hK _ _ (hSG.out _ hB11) ?_
                clear hK K hB10 h10_10 hb11
                (try simp only [Act.put, List.setIfInBounds_toArray, List.set_cons_zero, List.set_cons_succ])
                repeat (first | (refine tr_read rfl (by rfl) _ (fun w' hS => by (try dsimp only at hS); go_simp; (try with_reducible rfl)) ?_; (try simp only [Act.put, List.setIfInBounds_toArray, List.set_cons_zero, List.set_cons_succ])) | (refine tr_skip rfl (by rfl) ?_; (try simp only [Act.put, List.setIfInBounds_toArray, List.set_cons_zero, List.set_cons_succ])))
                refine tr_step rfl (by rfl) (fun K hK => ?_)
                obtain ⟨u0_12, q0_12, f0_12⟩ := h10_11.get 0 (by omega)
                obtain ⟨u1_12, q1_12, f1_12⟩ := h10_11.get 1 (by omega)
                have hB12 := BC (BC hB11 g10 0 hg10 (.int .i64 (r1))) g10 1 hg10 (.int .i64 (r2))
                have h10_12 := two_set h10_11 (r1) (r2)
                go_simp
                clear q0_12 f0_12 q1_12 f1_12
                generalize (X11.setCell ⟨g10, 0, none⟩ (.int .i64 (r1))).setCell ⟨g10, 1, none⟩ (.int .i64 (r2)) = X12 at *
                refine hK _ _ (hSG.out _ hB12) ?_
                clear hK K hB11 h10_11
                (try simp only [Act.put, List.setIfInBounds_toArray, List.set_cons_zero, List.set_cons_succ])
                repeat (first | (refine tr_read rfl (by rfl) _ (fun w' hS => by (try dsimp only at hS); go_simp; (try with_reducible rfl)) ?_; (try simp only [Act.put, List.setIfInBounds_toArray, List.set_cons_zero, List.set_cons_succ])) | (refine tr_skip rfl (by rfl) ?_; (try simp only [Act.put, List.setIfInBounds_toArray, List.set_cons_zero, List.set_cons_succ])))
                show Exit.then _ _ Exit.normal _ _
                go_wp2_with fail
                go_meet
                exact ⟨g10, rfl, rfl, h10_12, hB12⟩
            · skip
              refine tr_step rfl (by rfl) (fun K hK => ?_)
              have hB13 := BA hB0 (.cells #[.int .i64 0, .int .i64 0] 24)
              have h10_13 := slots_new2 X0 24
              have hg10 := hB0.size
              go_simp
              generalize X0.heap.size = g10 at *
              generalize X0.alloc (.cells #[.int .i64 0, .int .i64 0] 24) = X13 at *
              refine hK _ _ (hSG.out _ hB13) ?_
              clear hK K hB0 
              (try simp only [Act.put, List.setIfInBounds_toArray, List.set_cons_zero, List.set_cons_succ])
              refine tr_step rfl (by rfl) (fun K hK => ?_)
              go_simp
              refine (HWb.out X13 hB13).mono ?_
              rintro e X14 ⟨rfl, hb14⟩
              have hB14 := BT hB13 hb14
              have h10_14 := h10_13.below hb14 (h10_13.lt2)
              refine hK _ _ (hSG.out _ hB14) ?_
              clear hK K hB13 h10_13 hb14
              (try simp only [Act.put, List.setIfInBounds_toArray, List.set_cons_zero, List.set_cons_succ])
              refine tr_step rfl (by rfl) (fun K hK => ?_)
              go_simp
              refine (HWa.out X14 hB14).mono ?_
              rintro e X15 ⟨rfl, hb15⟩
              have hB15 := BT hB14 hb15
              have h10_15 := h10_14.below hb15 (h10_14.lt2)
              refine hK _ _ (hSG.out _ hB15) ?_
              clear hK K hB14 h10_14 hb15
              (try simp only [Act.put, List.setIfInBounds_toArray, List.set_cons_zero, List.set_cons_succ])
              refine tr_step rfl (by rfl) (fun K hK => ?_)
              go_simp
              refine (HBa.out X15 hB15).mono ?_
              rintro e X16 ⟨rfl, hb16⟩
              have hB16 := BT hB15 hb16
              have h10_16 := h10_15.below hb16 (h10_15.lt2)
              refine hK _ _ (hSG.out _ hB16) ?_
              clear hK K hB15 h10_15 hb16
              (try simp only [Act.put, List.setIfInBounds_toArray, List.set_cons_zero, List.set_cons_succ])
              repeat (first | (refine tr_read rfl (by rfl) _ (fun w' hS => by (try dsimp only at hS); go_simp; (try with_reducible rfl)) ?_; (try simp only [Act.put, List.setIfInBounds_toArray, List.set_cons_zero, List.set_cons_succ])) | (refine tr_skip rfl (by rfl) ?_; (try simp only [Act.put, List.setIfInBounds_toArray, List.set_cons_zero, List.set_cons_succ])))
              refine tr_step rfl (by rfl) (fun K hK => ?_)
              obtain ⟨u0_17, q0_17, f0_17⟩ := h10_16.get 0 (by omega)
              obtain ⟨u1_17, q1_17, f1_17⟩ := h10_16.get 1 (by omega)
              have hB17 := BC (BC hB16 g10 0 hg10 (.int .i64 (r1))) g10 1 hg10 (.int .i64 (r2))
              have h10_17 := two_set h10_16 (r1) (r2)
              go_simp
              clear q0_17 f0_17 q1_17 f1_17
              generalize (X16.setCell ⟨g10, 0, none⟩ (.int .i64 (r1))).setCell ⟨g10, 1, none⟩ (.int .i64 (r2)) = X17 at *
              refine hK _ _ (hSG.out _ hB17) ?_
              clear hK K hB16 h10_16
              (try simp only [Act.put, List.setIfInBounds_toArray, List.set_cons_zero, List.set_cons_succ])
              repeat (first | (refine tr_read rfl (by rfl) _ (fun w' hS => by (try dsimp only at hS); go_simp; (try with_reducible rfl)) ?_; (try simp only [Act.put, List.setIfInBounds_toArray, List.set_cons_zero, List.set_cons_succ])) | (refine tr_skip rfl (by rfl) ?_; (try simp only [Act.put, List.setIfInBounds_toArray, List.set_cons_zero, List.set_cons_succ])))
              show Exit.then _ _ Exit.normal _ _
              go_wp2_with fail
              go_meet
              exact ⟨g10, rfl, rfl, h10_17, hB17⟩
          case rest =>
          obtain ⟨g38, rfl, rfl, hp, hbc⟩ := hcut
          obtain ⟨u4, rfl⟩ : ∃ u4 : World, u4 = wc := ⟨_, rfl⟩
          have HT38 := Lib.hid hp
          have HT32 := Lib.hid (HT32.out.grown hbc)
          have HT34 := Lib.hid (HT34.out.grown hbc)
          have HT36 := Lib.hid (HT36.out.grown hbc)
          have hBz := BT hBz hbc
          have HT := Lib.hid (HT.out.grown hbc)
          clear hp hbc hSG hB0 HWb HWa HBa
          have hS : Hid (∀ X, Below u4.heap.size u4 X → X.cell? ⟨g32, 0, none⟩ = some (.int .i64 q1) ∧ X.cell? ⟨g32, 1, none⟩ = some (.int .i64 q2) ∧ X.cell? ⟨g34, 0, none⟩ = some (.int .i64 q1) ∧ X.cell? ⟨g34, 1, none⟩ = some (.int .i64 q2) ∧ X.cell? ⟨g36, 0, none⟩ = some (.int .i64 r1) ∧ X.cell? ⟨g36, 1, none⟩ = some (.int .i64 r2) ∧ X.cell? ⟨g38, 0, none⟩ = some (.int .i64 r1) ∧ X.cell? ⟨g38, 1, none⟩ = some (.int .i64 r2)) := fun X hX => by
            obtain ⟨i0, i1⟩ := HT32.out.grown hX
            obtain ⟨i2, i3⟩ := HT34.out.grown hX
            obtain ⟨i4, i5⟩ := HT36.out.grown hX
            obtain ⟨i6, i7⟩ := HT38.out.grown hX
            exact ⟨i0, i1, i2, i3, i4, i5, i6, i7⟩
          have hbd : Below u4.heap.size u4 u4.drew := Below.drew (Below.refl _ _)
          have a1 := HA1.out
          have a2 := HA2.out
          go_upto_region 32 with fail
          refine wp_region_seq [(0, true), (1, true), (2, true), (3, true), (4, true), (5, true), (6, true), (7, true), (8, true), (9, true), (10, true), (11, true), (12, true), (13, true), (14, true), (15, true), (16, true), (17, true), (18, true), (19, true), (20, true), (21, true), (22, true), (23, true), (24, true), (25, true), (26, false), (27, true), (28, true), (29, true), (30, true)] (fun w' => w'.cell? ⟨g32, 0, none⟩ = some (.int .i64 q1) ∧ w'.cell? ⟨g32, 1, none⟩ = some (.int .i64 q2) ∧ w'.cell? ⟨g34, 0, none⟩ = some (.int .i64 q1) ∧ w'.cell? ⟨g34, 1, none⟩ = some (.int .i64 q2) ∧ w'.cell? ⟨g36, 0, none⟩ = some (.int .i64 r1) ∧ w'.cell? ⟨g36, 1, none⟩ = some (.int .i64 r2) ∧ w'.cell? ⟨g38, 0, none⟩ = some (.int .i64 r1) ∧ w'.cell? ⟨g38, 1, none⟩ = some (.int .i64 r2)) (by kernel_rfl) (by kernel_rfl) (fun _ _ d _ _ h => by cases d <;> exact h) (hS.out _ hbd) ?_
          generalize u4.drew = X0 at hbd ⊢
          clear HT32 HT34 HT36 HT38
          repeat (first | (refine seq_read rfl (by rfl) _ (fun w' hS => by (try dsimp only at hS); go_simp; (try with_reducible rfl)) ?_; (try simp only [Act.put, List.setIfInBounds_toArray, List.set_cons_zero, List.set_cons_succ])) | (refine seq_skip rfl (by rfl) ?_; (try simp only [Act.put, List.setIfInBounds_toArray, List.set_cons_zero, List.set_cons_succ])))
          refine seq_do rfl (by rfl) (fun K hK => ?_)
          go_simp
          refine (HW.out _ (HT.out.grown hbd)).mono ?_
          rintro e X1 ⟨rfl, hz⟩
          have hB1 := BT hbd hz
          refine hK _ _ (hS.out _ hB1) ?_
          clear hK K hbd hz
          (try simp only [Act.put, List.setIfInBounds_toArray, List.set_cons_zero, List.set_cons_succ])
          repeat (first | (refine seq_read rfl (by rfl) _ (fun w' hS => by (try dsimp only at hS); go_simp; (try with_reducible rfl)) ?_; (try simp only [Act.put, List.setIfInBounds_toArray, List.set_cons_zero, List.set_cons_succ])) | (refine seq_skip rfl (by rfl) ?_; (try simp only [Act.put, List.setIfInBounds_toArray, List.set_cons_zero, List.set_cons_succ])))
          refine seq_end ?_
          first | show Exit.inBlock _ _ Exit.normal _ _ | show Exit.then _ _ Exit.normal _ _
          have HT := Lib.hid (HT.out.grown hB1)
          have hBz := BT hBz hB1
          clear hS hB1
          go_wp2_with fail
          go_roundw
          case rel => exact ⟨k + 1, by omega, by go_num, HT.out, hBz⟩
          case measure => simp [intOf]; omega
        · obtain rfl : k = E := by omega
          have c3 := HT.out.bw.box.c3
          rw [HI.out] at c3
          go_upto_region 36 with fail
          clear c3
          go_loopw [250] (fun p wr => ∃ k : Nat, k ≤ I ∧ p = .int .i64 k ∧ TT wr w.heap.size g h tw xs ls tl a b sc ∧ Below w.heap.size w wr) (fun p _ => I - (intOf p).toNat)
          case atStart => exact ⟨0, by omega, rfl, HT.out, hBz⟩
          case round =>
            obtain ⟨k, hk, rfl, hT, hBz⟩ := hrel
            have HT := Lib.hid hT
            clear hT
            by_cases hlt : k < I
            · skip
              have hlt' : (k : Int) < (I : Int) := by omega
              have hk0 : (0 : Int) ≤ (k : Int) := by omega
              obtain ⟨q1, q2, c1, hq, hq'⟩ := TF'.out.pl k hlt
              have hk6 : k < 6 := by have := HI1.out; omega
              have HW1 := Lib.hid (fun Y (hY : TT Y w.heap.size g h tw xs ls tl a b sc) => img_any w.heap.size h I b k Y HI.out HI1.out.1 (by omega) hb hY.bw.box hY.cb)
              generalize (k + b) % I = q at hq' HW1
              have HW : Hid (∀ Y, TT Y w.heap.size g h tw xs ls tl a b sc → Calls Try.prog 39 #[.int .i64 k, .pointer (some ⟨w.heap.size + 1 + 1, 0, none⟩), .pointer (some ⟨w.heap.size, 0, none⟩)] Y (Ret (.int .i64 q) Y)) := fun Y hY => by
                exact HW1.out Y hY
              have HH1 : Hid (∀ Y, TT Y w.heap.size g h tw xs ls tl a b sc → Calls Try.prog 18 #[.agg #[.slice h.a h.n h.cap, .int .i64 h.eLo, .int .i64 h.eHi, .int .i64 h.images, .int .i64 h.eyes, .int .i64 h.hLo, .int .i64 h.hHi, .slice h.la h.ln h.lcap], .int .i64 k] Y (Ret (.tuple #[.agg #[.int .i64 q1, .int .i64 q2], .int .i64 c1]) Y)) := fun Y hY => by
                have := place_any k h xs ls Y hY.bw.has
                rw [hq] at this; exact this
              have HH2 : Hid (∀ Y, TT Y w.heap.size g h tw xs ls tl a b sc → Calls Try.prog 18 #[.agg #[.slice tw.a tw.n tw.cap, .int .i64 tw.eLo, .int .i64 tw.eHi, .int .i64 tw.images, .int .i64 tw.eyes, .int .i64 tw.hLo, .int .i64 tw.hHi, .slice tw.la tw.ln tw.lcap], .int .i64 q] Y (Ret (.tuple #[.agg #[.int .i64 q1, .int .i64 q2], .int .i64 c1]) Y)) := fun Y hY => by
                have := place_any q tw xs tl Y hY.bx.has
                rw [hq'] at this; exact this
              clear hq hq' HW1
              obtain ⟨⟨c0, c1', c2', c3, c4, c5, c6, c7⟩, hh⟩ := HT.out.bw
              clear hh
              go_wp2_with fail
              refine (HH1.out _ HT.out).mono ?_
              rintro e x1 ⟨rfl, hx1⟩
              clear c0 c1' c2' c3 c4 c5 c6 c7 HH1
              have hZ := BT hx1 (newB x1 (.cells #[.int .i64 q1, .int .i64 q2] 24))
              have HT41 := Lib.hid (show Two x1.heap.size q1 q2 (x1.alloc (.cells #[.int .i64 q1, .int .i64 q2] 24)) from two_newT x1 _ _ _)
              go_upto_region 39 with fail
              generalize x1.heap.size = g41 at HT41 ⊢
              generalize x1.alloc (.cells #[.int .i64 q1, .int .i64 q2] 24) = u1 at hZ HT41 ⊢
              have hBz := BT hBz hZ
              have HT := Lib.hid (HT.out.grown hZ)
              clear hZ hx1
              have hSG : Hid (∀ X0, Below u1.heap.size u1 X0 → X0.cell? ⟨g, 0, none⟩ = some (.slice tw.a tw.n tw.cap) ∧ X0.cell? ⟨g, 1, none⟩ = some (.int .i64 tw.eLo) ∧ X0.cell? ⟨g, 2, none⟩ = some (.int .i64 tw.eHi) ∧ X0.cell? ⟨g, 3, none⟩ = some (.int .i64 tw.images) ∧ X0.cell? ⟨g, 4, none⟩ = some (.int .i64 tw.eyes) ∧ X0.cell? ⟨g, 5, none⟩ = some (.int .i64 tw.hLo) ∧ X0.cell? ⟨g, 6, none⟩ = some (.int .i64 tw.hHi) ∧ X0.cell? ⟨g, 7, none⟩ = some (.slice tw.la tw.ln tw.lcap)) := fun X0 hX => by
                obtain ⟨⟨i0, i1, i2, i3, i4, i5, i6, i7⟩, _⟩ := (HT.out.grown hX).bx
                exact ⟨i0, i1, i2, i3, i4, i5, i6, i7⟩
              have HWa : Hid (∀ Y, Below u1.heap.size u1 Y → Calls Try.prog 39 #[.int .i64 k, .pointer (some ⟨w.heap.size + 1 + 1, 0, none⟩), .pointer (some ⟨w.heap.size, 0, none⟩)] Y (Ret (.int .i64 q) Y)) := fun Y hY => HW.out Y (HT.out.grown hY)
              have HHa : Hid (∀ Y, Below u1.heap.size u1 Y → Calls Try.prog 18 #[.agg #[.slice tw.a tw.n tw.cap, .int .i64 tw.eLo, .int .i64 tw.eHi, .int .i64 tw.images, .int .i64 tw.eyes, .int .i64 tw.hLo, .int .i64 tw.hHi, .slice tw.la tw.ln tw.lcap], .int .i64 q] Y (Ret (.tuple #[.agg #[.int .i64 q1, .int .i64 q2], .int .i64 c1]) Y)) := fun Y hY => HH2.out Y (HT.out.grown hY)
              have hB0 : Below u1.heap.size u1 u1.drew := Below.drew (Below.refl _ _)
              go_cut [43, 44] from 259 to 266 (fun ap aq X => ∃ gp : Nat, ap = .pointer (some ⟨gp, 0, none⟩) ∧ aq = .int .i64 c1 ∧ Two gp q1 q2 X ∧ Below u1.heap.size u1 X)
              case first =>
                refine wp_region_tree (.read 0 (.read 1 (.read 2 (.two 3 (.two 4 (.read 5 (.read 6 (.read 7 (.one 8 (.one 9 (.read 10 (.leaf))))))) 8 (.one 4 (.read 5 (.read 6 (.read 7 (.one 9 (.read 10 (.leaf)))))))) 8 (.one 3 (.one 4 (.read 5 (.read 6 (.read 7 (.one 9 (.read 10 (.leaf)))))))))))) (fun w' => w'.cell? ⟨g, 0, none⟩ = some (.slice tw.a tw.n tw.cap) ∧ w'.cell? ⟨g, 1, none⟩ = some (.int .i64 tw.eLo) ∧ w'.cell? ⟨g, 2, none⟩ = some (.int .i64 tw.eHi) ∧ w'.cell? ⟨g, 3, none⟩ = some (.int .i64 tw.images) ∧ w'.cell? ⟨g, 4, none⟩ = some (.int .i64 tw.eyes) ∧ w'.cell? ⟨g, 5, none⟩ = some (.int .i64 tw.hLo) ∧ w'.cell? ⟨g, 6, none⟩ = some (.int .i64 tw.hHi) ∧ w'.cell? ⟨g, 7, none⟩ = some (.slice tw.la tw.ln tw.lcap)) (by kernel_rfl) (by kernel_rfl) (fun _ _ d _ _ h => by cases d <;> exact h) (hSG.out _ hB0) ?_
                generalize u1.drew = X0 at hB0 ⊢
                repeat (first | (refine tr_read rfl (by rfl) _ (fun w' hS => by (try dsimp only at hS); go_simp; (try with_reducible rfl)) ?_; (try simp only [Act.put, List.setIfInBounds_toArray, List.set_cons_zero, List.set_cons_succ])) | (refine tr_skip rfl (by rfl) ?_; (try simp only [Act.put, List.setIfInBounds_toArray, List.set_cons_zero, List.set_cons_succ])))
                refine ⟨?_, ?_⟩
                · skip
                  refine tr_step rfl (by rfl) (fun K hK => ?_)
                  go_simp
                  refine (HWa.out X0 hB0).mono ?_
                  rintro e X1 ⟨rfl, hb1⟩
                  have hB1 := BT hB0 hb1
                  refine hK _ _ (hSG.out _ hB1) ?_
                  clear hK K hB0 hb1
                  (try simp only [Act.put, List.setIfInBounds_toArray, List.set_cons_zero, List.set_cons_succ])
                  refine ⟨?_, ?_⟩
                  · skip
                    refine tr_step rfl (by rfl) (fun K hK => ?_)
                    go_simp
                    refine (HHa.out X1 hB1).mono ?_
                    rintro e X2 ⟨rfl, hb2⟩
                    have hB2 := BT hB1 hb2
                    refine hK _ _ (hSG.out _ hB2) ?_
                    clear hK K hB1 hb2
                    (try simp only [Act.put, List.setIfInBounds_toArray, List.set_cons_zero, List.set_cons_succ])
                    repeat (first | (refine tr_read rfl (by rfl) _ (fun w' hS => by (try dsimp only at hS); go_simp; (try with_reducible rfl)) ?_; (try simp only [Act.put, List.setIfInBounds_toArray, List.set_cons_zero, List.set_cons_succ])) | (refine tr_skip rfl (by rfl) ?_; (try simp only [Act.put, List.setIfInBounds_toArray, List.set_cons_zero, List.set_cons_succ])))
                    refine tr_step rfl (by rfl) (fun K hK => ?_)
                    have hB3 := BA hB2 (.cells #[.int .i64 0, .int .i64 0] 24)
                    have h8_3 := slots_new2 X2 24
                    have hg8 := hB2.size
                    go_simp
                    generalize X2.heap.size = g8 at *
                    generalize X2.alloc (.cells #[.int .i64 0, .int .i64 0] 24) = X3 at *
                    refine hK _ _ (hSG.out _ hB3) ?_
                    clear hK K hB2 
                    (try simp only [Act.put, List.setIfInBounds_toArray, List.set_cons_zero, List.set_cons_succ])
                    refine tr_step rfl (by rfl) (fun K hK => ?_)
                    obtain ⟨u0_4, q0_4, f0_4⟩ := h8_3.get 0 (by omega)
                    obtain ⟨u1_4, q1_4, f1_4⟩ := h8_3.get 1 (by omega)
                    have hB4 := BC (BC hB3 g8 0 hg8 (.int .i64 (q1))) g8 1 hg8 (.int .i64 (q2))
                    have h8_4 := two_set h8_3 (q1) (q2)
                    go_simp
                    clear q0_4 f0_4 q1_4 f1_4
                    generalize (X3.setCell ⟨g8, 0, none⟩ (.int .i64 (q1))).setCell ⟨g8, 1, none⟩ (.int .i64 (q2)) = X4 at *
                    refine hK _ _ (hSG.out _ hB4) ?_
                    clear hK K hB3 h8_3
                    (try simp only [Act.put, List.setIfInBounds_toArray, List.set_cons_zero, List.set_cons_succ])
                    repeat (first | (refine tr_read rfl (by rfl) _ (fun w' hS => by (try dsimp only at hS); go_simp; (try with_reducible rfl)) ?_; (try simp only [Act.put, List.setIfInBounds_toArray, List.set_cons_zero, List.set_cons_succ])) | (refine tr_skip rfl (by rfl) ?_; (try simp only [Act.put, List.setIfInBounds_toArray, List.set_cons_zero, List.set_cons_succ])))
                    show Exit.then _ _ Exit.normal _ _
                    go_wp2_with fail
                    go_meet
                    exact ⟨g8, rfl, rfl, h8_4, hB4⟩
                  · skip
                    refine tr_step rfl (by rfl) (fun K hK => ?_)
                    have hB5 := BA hB1 (.cells #[.int .i64 0, .int .i64 0] 24)
                    have h8_5 := slots_new2 X1 24
                    have hg8 := hB1.size
                    go_simp
                    generalize X1.heap.size = g8 at *
                    generalize X1.alloc (.cells #[.int .i64 0, .int .i64 0] 24) = X5 at *
                    refine hK _ _ (hSG.out _ hB5) ?_
                    clear hK K hB1 
                    (try simp only [Act.put, List.setIfInBounds_toArray, List.set_cons_zero, List.set_cons_succ])
                    refine tr_step rfl (by rfl) (fun K hK => ?_)
                    go_simp
                    refine (HHa.out X5 hB5).mono ?_
                    rintro e X6 ⟨rfl, hb6⟩
                    have hB6 := BT hB5 hb6
                    have h8_6 := h8_5.below hb6 (h8_5.lt2)
                    refine hK _ _ (hSG.out _ hB6) ?_
                    clear hK K hB5 h8_5 hb6
                    (try simp only [Act.put, List.setIfInBounds_toArray, List.set_cons_zero, List.set_cons_succ])
                    repeat (first | (refine tr_read rfl (by rfl) _ (fun w' hS => by (try dsimp only at hS); go_simp; (try with_reducible rfl)) ?_; (try simp only [Act.put, List.setIfInBounds_toArray, List.set_cons_zero, List.set_cons_succ])) | (refine tr_skip rfl (by rfl) ?_; (try simp only [Act.put, List.setIfInBounds_toArray, List.set_cons_zero, List.set_cons_succ])))
                    refine tr_step rfl (by rfl) (fun K hK => ?_)
                    obtain ⟨u0_7, q0_7, f0_7⟩ := h8_6.get 0 (by omega)
                    obtain ⟨u1_7, q1_7, f1_7⟩ := h8_6.get 1 (by omega)
                    have hB7 := BC (BC hB6 g8 0 hg8 (.int .i64 (q1))) g8 1 hg8 (.int .i64 (q2))
                    have h8_7 := two_set h8_6 (q1) (q2)
                    go_simp
                    clear q0_7 f0_7 q1_7 f1_7
                    generalize (X6.setCell ⟨g8, 0, none⟩ (.int .i64 (q1))).setCell ⟨g8, 1, none⟩ (.int .i64 (q2)) = X7 at *
                    refine hK _ _ (hSG.out _ hB7) ?_
                    clear hK K hB6 h8_6
                    (try simp only [Act.put, List.setIfInBounds_toArray, List.set_cons_zero, List.set_cons_succ])
                    repeat (first | (refine tr_read rfl (by rfl) _ (fun w' hS => by (try dsimp only at hS); go_simp; (try with_reducible rfl)) ?_; (try simp only [Act.put, List.setIfInBounds_toArray, List.set_cons_zero, List.set_cons_succ])) | (refine tr_skip rfl (by rfl) ?_; (try simp only [Act.put, List.setIfInBounds_toArray, List.set_cons_zero, List.set_cons_succ])))
                    show Exit.then _ _ Exit.normal _ _
                    go_wp2_with fail
                    go_meet
                    exact ⟨g8, rfl, rfl, h8_7, hB7⟩
                · skip
                  refine tr_step rfl (by rfl) (fun K hK => ?_)
                  have hB8 := BA hB0 (.cells #[.int .i64 0, .int .i64 0] 24)
                  have h8_8 := slots_new2 X0 24
                  have hg8 := hB0.size
                  go_simp
                  generalize X0.heap.size = g8 at *
                  generalize X0.alloc (.cells #[.int .i64 0, .int .i64 0] 24) = X8 at *
                  refine hK _ _ (hSG.out _ hB8) ?_
                  clear hK K hB0 
                  (try simp only [Act.put, List.setIfInBounds_toArray, List.set_cons_zero, List.set_cons_succ])
                  refine tr_step rfl (by rfl) (fun K hK => ?_)
                  go_simp
                  refine (HWa.out X8 hB8).mono ?_
                  rintro e X9 ⟨rfl, hb9⟩
                  have hB9 := BT hB8 hb9
                  have h8_9 := h8_8.below hb9 (h8_8.lt2)
                  refine hK _ _ (hSG.out _ hB9) ?_
                  clear hK K hB8 h8_8 hb9
                  (try simp only [Act.put, List.setIfInBounds_toArray, List.set_cons_zero, List.set_cons_succ])
                  refine tr_step rfl (by rfl) (fun K hK => ?_)
                  go_simp
                  refine (HHa.out X9 hB9).mono ?_
                  rintro e X10 ⟨rfl, hb10⟩
                  have hB10 := BT hB9 hb10
                  have h8_10 := h8_9.below hb10 (h8_9.lt2)
                  refine hK _ _ (hSG.out _ hB10) ?_
                  clear hK K hB9 h8_9 hb10
                  (try simp only [Act.put, List.setIfInBounds_toArray, List.set_cons_zero, List.set_cons_succ])
                  repeat (first | (refine tr_read rfl (by rfl) _ (fun w' hS => by (try dsimp only at hS); go_simp; (try with_reducible rfl)) ?_; (try simp only [Act.put, List.setIfInBounds_toArray, List.set_cons_zero, List.set_cons_succ])) | (refine tr_skip rfl (by rfl) ?_; (try simp only [Act.put, List.setIfInBounds_toArray, List.set_cons_zero, List.set_cons_succ])))
                  refine tr_step rfl (by rfl) (fun K hK => ?_)
                  obtain ⟨u0_11, q0_11, f0_11⟩ := h8_10.get 0 (by omega)
                  obtain ⟨u1_11, q1_11, f1_11⟩ := h8_10.get 1 (by omega)
                  have hB11 := BC (BC hB10 g8 0 hg8 (.int .i64 (q1))) g8 1 hg8 (.int .i64 (q2))
                  have h8_11 := two_set h8_10 (q1) (q2)
                  go_simp
                  clear q0_11 f0_11 q1_11 f1_11
                  generalize (X10.setCell ⟨g8, 0, none⟩ (.int .i64 (q1))).setCell ⟨g8, 1, none⟩ (.int .i64 (q2)) = X11 at *
                  refine hK _ _ (hSG.out _ hB11) ?_
                  clear hK K hB10 h8_10
                  (try simp only [Act.put, List.setIfInBounds_toArray, List.set_cons_zero, List.set_cons_succ])
                  repeat (first | (refine tr_read rfl (by rfl) _ (fun w' hS => by (try dsimp only at hS); go_simp; (try with_reducible rfl)) ?_; (try simp only [Act.put, List.setIfInBounds_toArray, List.set_cons_zero, List.set_cons_succ])) | (refine tr_skip rfl (by rfl) ?_; (try simp only [Act.put, List.setIfInBounds_toArray, List.set_cons_zero, List.set_cons_succ])))
                  show Exit.then _ _ Exit.normal _ _
                  go_wp2_with fail
                  go_meet
                  exact ⟨g8, rfl, rfl, h8_11, hB11⟩
              case rest =>
              obtain ⟨g43, rfl, rfl, hp, hbc⟩ := hcut
              obtain ⟨u2, rfl⟩ : ∃ u2 : World, u2 = wc := ⟨_, rfl⟩
              have HT43 := Lib.hid hp
              have HT41 := Lib.hid (HT41.out.grown hbc)
              have hBz := BT hBz hbc
              have HT := Lib.hid (HT.out.grown hbc)
              clear hp hbc hSG hB0 HWa HHa
              obtain ⟨y0, y1⟩ := HT41.out
              obtain ⟨y2, y3⟩ := HT43.out
              clear HT41 HT43
              go_wp2_with fail
              go_roundw
              case rel => exact ⟨k + 1, by omega, by go_num, HT.out, hBz⟩
              case measure => simp [intOf]; omega
            · obtain rfl : k = I := by omega
              have hn9 : (h.ln : Int) ≤ 9223372036854775807 := by omega
              go_upto_region 44 with fail
              go_loopw [278] (fun p wr => ∃ k : Nat, k ≤ h.ln ∧ p = .int .i64 k ∧ TT wr w.heap.size g h tw xs ls tl a b sc ∧ Below w.heap.size w wr) (fun p _ => h.ln - (intOf p).toNat)
              case atStart => exact ⟨0, by omega, rfl, HT.out, hBz⟩
              case round =>
                obtain ⟨k, hk, rfl, hT, hBz⟩ := hrel
                have HT := Lib.hid hT
                clear hT
                by_cases hlt : k < h.ln
                · skip
                  have hlt' : (k : Int) < (h.ln : Int) := by omega
                  have hk0 : (0 : Int) ≤ (k : Int) := by omega
                  have hkl : k < ls.length := by rw [hnl.out]; exact hlt
                  have hc7 := HT.out.bw.box.c7
                  rcases HT.out.bw.has.lk with hnil | ⟨b1, o1, hsa1, _, hc1⟩
                  · exfalso; rw [hnil] at hkl; simp at hkl
                  rcases HT.out.kp with hnil | ⟨b2, o2, hsa2, _, hc2⟩
                  · exfalso; rw [hnil] at hkl; simp at hkl
                  obtain ⟨d0, d1, d2, _⟩ := hc1 k hkl
                  obtain ⟨e0, e1, e2, _⟩ := hc2 k hkl
                  clear hc1 hc2
                  rw [hsa1] at hc7
                  generalize ls.getD k (0, 0, 0) = lv at d0 d1 d2 e0 e1 e2
                  obtain ⟨ey, im, rd⟩ := lv
                  dsimp only at d0 d1 d2 e0 e1 e2
                  subst hsa2
                  have hbd := Below.drew (Below.refl wr.heap.size wr)
                  have hSS : Hid (∀ X, Below wr.heap.size wr X → X.cell? ⟨w.heap.size, 7, none⟩ = some (.slice (some ⟨b1, o1, none⟩) h.ln h.lcap) ∧ X.cell? ⟨b1, o1 + k * 3, none⟩ = some (.int .i64 ey) ∧ X.cell? ⟨b1, o1 + k * 3 + 1, none⟩ = some (.int .i64 im) ∧ X.cell? ⟨b1, o1 + k * 3 + 2, none⟩ = some (.int .i64 rd) ∧ X.cell? ⟨b2, o2 + k * 3, none⟩ = some (.int .i64 ey) ∧ X.cell? ⟨b2, o2 + k * 3 + 1, none⟩ = some (.int .i64 im) ∧ X.cell? ⟨b2, o2 + k * 3 + 2, none⟩ = some (.int .i64 rd)) := fun X hX => ⟨cellB hc7 hX, cellB d0 hX, cellB d1 hX, cellB d2 hX, cellB e0 hX, cellB e1 hX, cellB e2 hX⟩
                  go_upto_region 46 with fail
                  refine wp_region_seq [(0, true), (1, true), (2, true), (3, true), (4, true), (5, true), (6, true), (7, true), (8, true), (9, true)] (fun w' => w'.cell? ⟨w.heap.size, 7, none⟩ = some (.slice (some ⟨b1, o1, none⟩) h.ln h.lcap) ∧ w'.cell? ⟨b1, o1 + k * 3, none⟩ = some (.int .i64 ey) ∧ w'.cell? ⟨b1, o1 + k * 3 + 1, none⟩ = some (.int .i64 im) ∧ w'.cell? ⟨b1, o1 + k * 3 + 2, none⟩ = some (.int .i64 rd) ∧ w'.cell? ⟨b2, o2 + k * 3, none⟩ = some (.int .i64 ey) ∧ w'.cell? ⟨b2, o2 + k * 3 + 1, none⟩ = some (.int .i64 im) ∧ w'.cell? ⟨b2, o2 + k * 3 + 2, none⟩ = some (.int .i64 rd)) (by kernel_rfl) (by kernel_rfl) (fun _ _ d _ _ h => by cases d <;> exact h) (hSS.out _ hbd) ?_
                  generalize wr.drew = X0 at hbd ⊢
                  clear hc7 d0 d1 d2 e0 e1 e2
                  repeat (first | (refine seq_read rfl (by rfl) _ (fun w' hS => by (try dsimp only at hS); go_simp; (try with_reducible rfl)) ?_; (try simp only [Act.put, List.setIfInBounds_toArray, List.set_cons_zero, List.set_cons_succ])) | (refine seq_skip rfl (by rfl) ?_; (try simp only [Act.put, List.setIfInBounds_toArray, List.set_cons_zero, List.set_cons_succ])))
                  refine seq_end ?_
                  first | show Exit.inBlock _ _ Exit.normal _ _ | show Exit.then _ _ Exit.normal _ _
                  have HT := Lib.hid (HT.out.grown hbd)
                  have hBz := BT hBz hbd
                  clear hSS hbd
                  go_wp2_with fail
                  go_roundw
                  case rel => exact ⟨k + 1, by omega, by go_num, HT.out, hBz⟩
                  case measure => simp [intOf]; omega
                · obtain rfl : k = h.ln := by omega
                  go_wp2_with fail
                  refine (awake_any _).mono ?_
                  rintro e wz ⟨rfl, hz⟩
                  have hB := BT hBz hz
                  go_wp2
                  go_ret
                  exact ⟨rfl, hB⟩
theorem turned_all (h : Wd) (xs : List (Int × Int)) (ls : List LkV) (y z : Int) (w : World) (hm : HasW w h xs ls) (hy : 0 ≤ y ∧ y ≤ 255) (hz : 0 ≤ z ∧ z ≤ 255) :
    Calls Try.prog 11 #[h.val, .int .u8 y, .int .u8 z] w (Ret (.bool true) w) := by
  obtain ⟨a, rfl⟩ : ∃ a : Nat, y = a := ⟨y.toNat, by omega⟩
  obtain ⟨b, rfl⟩ : ∃ b : Nat, z = b := ⟨z.toNat, by omega⟩
  exact turned_walk h xs ls a b w hm (by omega) (by omega)
end Ey
end Go.Proofs.Ytcfjakifeihbpaa
