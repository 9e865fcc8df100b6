/- Plate: the closure behind Find. -/
import Derived.Test.YtdkegkacpdkjgaaGreatPsf
namespace Go.Proofs.YtdkegkacpdkjgaaGreat
open Go.RowKit Go.Maps

theorem slots_star (w : World) (T : TypeId) : Slots w.heap.size 9 (w.alloc (.cells #[.int .i64 0, .int .i64 0, .int .i64 0, .int .i64 0, .bool false, .int .i64 0, .int .i64 0, .int .i64 0, .int .i64 0] T)) := by
  intro o ho
  have : o = 0 ∨ o = 1 ∨ o = 2 ∨ o = 3 ∨ o = 4 ∨ o = 5 ∨ o = 6 ∨ o = 7 ∨ o = 8 := by omega
  rcases this with rfl | rfl | rfl | rfl | rfl | rfl | rfl | rfl | rfl <;> simp [go_sem]
theorem star_set {X : World} {K : Nat} (h : Slots K 9 X) (s : St) : StAt s K 0 ((((((((((X.setCell ⟨K, 0, none⟩ (.int .i64 s.x0)).setCell ⟨K, 1, none⟩ (.int .i64 s.x1)).setCell ⟨K, 2, none⟩ (.int .i64 s.y0)).setCell ⟨K, 3, none⟩ (.int .i64 s.y1)).setCell ⟨K, 4, none⟩ (.bool s.k)).setCell ⟨K, 5, none⟩ (.int .i64 s.e0)).setCell ⟨K, 6, none⟩ (.int .i64 s.e1)).setCell ⟨K, 7, none⟩ (.int .i64 s.n0)).setCell ⟨K, 8, none⟩ (.int .i64 s.n1))) := by
  obtain ⟨x0, q0, _⟩ := h.get 0 (by omega)
  obtain ⟨x1, q1, _⟩ := h.get 1 (by omega)
  obtain ⟨x2, q2, _⟩ := h.get 2 (by omega)
  obtain ⟨x3, q3, _⟩ := h.get 3 (by omega)
  obtain ⟨x4, q4, _⟩ := h.get 4 (by omega)
  obtain ⟨x5, q5, _⟩ := h.get 5 (by omega)
  obtain ⟨x6, q6, _⟩ := h.get 6 (by omega)
  obtain ⟨x7, q7, _⟩ := h.get 7 (by omega)
  obtain ⟨x8, q8, _⟩ := h.get 8 (by omega)
  constructor <;> simp [go_sem, q0, q1, q2, q3, q4, q5, q6, q7, q8]
theorem sky_one {n : Int} (h : skyB n n = true) : -1048576 ≤ n ∧ n ≤ 1048576 := by
  unfold skyB at h
  simp at h
  omega
theorem sought_rng {a b : Int} (ha : skyB a a = true) (hb : skyB b b = true) (d : Bool) : (-100000000 ≤ ((soughtS a b).sky d).1 ∧ ((soughtS a b).sky d).1 ≤ 100000000) ∧ -100000000 ≤ ((soughtS a b).sky d).2 ∧ ((soughtS a b).sky d).2 ≤ 100000000 := by
  have h1 := sky_one ha
  have h2 := sky_one hb
  cases d
  · exact ⟨⟨by show -100000000 ≤ a; omega, by show a ≤ 100000000; omega⟩, by show -100000000 ≤ a; omega, by show a ≤ 100000000; omega⟩
  · exact ⟨⟨by show -100000000 ≤ b; omega, by show b ≤ 100000000; omega⟩, by show -100000000 ≤ b; omega, by show b ≤ 100000000; omega⟩
set_option maxRecDepth 100000 in
set_option maxHeartbeats 8000000 in
theorem findT_any (B C D : Nat) (a b : Int) (p : Pl) (ss : List St) (w : World) (hbp : BoxP w B p) (hm : PlAt p ss w) (hc : w.cell? ⟨C, 0, none⟩ = some (.int .i64 a)) (hd : w.cell? ⟨D, 0, none⟩ = some (.int .i64 b)) :
    Calls Tryz.prog 60 #[.pointer (some ⟨B, 0, none⟩), .pointer (some ⟨C, 0, none⟩), .pointer (some ⟨D, 0, none⟩)] w (Out (findR p ss a b) w) := by
  have hm0 := hm
  have hmf : ∀ (fn : Fn) (first cap : Array Value) (w : World), (Instr.makeFunc fn first cap).run Tryz.prog w = .ok (.func fn first cap) w := fun _ _ _ _ => rfl
  have hst := @store_fn Tryz.prog
  obtain ⟨R, hR⟩ : ∃ R, findR p ss a b = R := ⟨_, rfl⟩
  rw [hR]
  unfold findR at hR
  have HR := Lib.hid hR
  clear hR
  go_enter Tryz.func60, Tryz.ntmps60
  obtain ⟨W0, hW0⟩ : ∃ X, w.alloc (.cells #[.int .i64 0, .int .i64 0, .int .i64 0, .int .i64 0] 81) = X := ⟨_, rfl⟩
  have hsl : Slots w.heap.size 4 W0 := by
    rw [← hW0]; intro o ho
    have : o = 0 ∨ o = 1 ∨ o = 2 ∨ o = 3 := by omega
    rcases this with rfl | rfl | rfl | rfl <;> simp [go_sem]
  have hTlt : w.heap.size < W0.heap.size := by rw [← hW0]; simp
  have hB : Below w.heap.size w W0 := by rw [← hW0]; exact newB _ _
  have hx0 : Below w.heap.size w W0 := hB
  have hbp_ := hbp.grown hx0
  clear hbp
  have hbp := hbp_
  clear hbp_
  have hm_ := hm.below hx0 (Nat.le_refl _)
  clear hm
  have hm := hm_
  clear hm_
  have hc_ := cellB hc hx0
  clear hc
  have hc := hc_
  clear hc_
  have hd_ := cellB hd hx0
  clear hd
  have hd := hd_
  clear hd_
  clear hx0
  obtain ⟨b0, b1, b2⟩ := id hbp
  go_wp2_with fail
  clear hW0 b0 b1 b2
  cases hv : plB p ss
  · have hRe : R = .error 1 := by rw [← HR.out, hv]; rfl
    refine (lookAt_no p ss W0 hm hv).mono ?_
    rintro e X ⟨rfl, hX⟩
    rw [hRe]
    exact ⟨rfl, rfl, BT hB hX⟩
  have hok := plOk hm hv
  have HR1 := Lib.hid HR.out
  rw [hv, if_pos rfl] at HR1
  refine (lookAt_ok p ss W0 hm hv).mono ?_
  rintro e X1 ⟨rfl, hx1⟩
  have hbp_ := hbp.grown hx1
  clear hbp
  have hbp := hbp_
  clear hbp_
  have hm_ := hm.below hx1 (Nat.le_refl _)
  clear hm
  have hm := hm_
  clear hm_
  have hc_ := cellB hc hx1
  clear hc
  have hc := hc_
  clear hc_
  have hd_ := cellB hd hx1
  clear hd
  have hd := hd_
  clear hd_
  have hsl_ := hsl.below hx1 hTlt
  clear hsl
  have hsl := hsl_
  clear hsl_
  have hTlt_ := Nat.lt_of_lt_of_le hTlt hx1.size
  clear hTlt
  have hTlt := hTlt_
  clear hTlt_
  have hB_ := BT hB hx1
  clear hB
  have hB := hB_
  clear hB_
  clear hx1
  unfold lookV sideV
  simp only [List.append_toArray, List.cons_append, List.nil_append]
  clear HR hv
  obtain ⟨XL, hXL⟩ : ∃ X, X1.alloc (.cells #[.int .i64 p.lo, .int .i64 p.hi, .slice p.a p.n p.cap, .int .i64 p.lo, .int .i64 p.hi, .slice p.a p.n p.cap, .func (.func 133) #[] #[], .int .i64 p.lo, .int .i64 p.hi, .slice p.a p.n p.cap, .func (.func 134) #[] #[]] 70) = X := ⟨_, rfl⟩
  have hL : BoxL XL X1.heap.size p := by rw [← hXL]; exact boxL_newE X1 p
  have hxL : Below X1.heap.size X1 XL := by rw [← hXL]; exact newB _ _
  have hbp_ := hbp.grown hxL
  clear hbp
  have hbp := hbp_
  clear hbp_
  have hm_ := hm.below hxL (Nat.le_refl _)
  clear hm
  have hm := hm_
  clear hm_
  have hc_ := cellB hc hxL
  clear hc
  have hc := hc_
  clear hc_
  have hd_ := cellB hd hxL
  clear hd
  have hd := hd_
  clear hd_
  have hsl_ := hsl.below hxL hTlt
  clear hsl
  have hsl := hsl_
  clear hsl_
  have hTlt_ := Nat.lt_of_lt_of_le hTlt hxL.size
  clear hTlt
  have hTlt := hTlt_
  clear hTlt_
  have hB_ := BT hB hxL
  clear hB
  have hB := hB_
  clear hB_
  clear hxL
  obtain ⟨b0, b1, b2, b3, b4, b5, b6, b7, b8, b9, b10⟩ := id hL
  go_wp2_with fail
  clear hXL b0 b1 b2 b3 b4 b5 b6 b7 b8 b9 b10 
  generalize X1.heap.size = G at *
  obtain ⟨XS, hXS⟩ : ∃ X, XL.alloc (.cells #[.int .i64 0, .int .i64 32768] 23) = X := ⟨_, rfl⟩
  have hs : XS.cell? ⟨XL.heap.size, 0, none⟩ = some (.int .i64 0) ∧ XS.cell? ⟨XL.heap.size, 1, none⟩ = some (.int .i64 32768) := by rw [← hXS]; exact ⟨by simp [go_sem], by simp [go_sem]⟩
  have hxS : Below XL.heap.size XL XS := by rw [← hXS]; exact newB _ _
  have hbp_ := hbp.grown hxS
  clear hbp
  have hbp := hbp_
  clear hbp_
  have hm_ := hm.below hxS (Nat.le_refl _)
  clear hm
  have hm := hm_
  clear hm_
  have hc_ := cellB hc hxS
  clear hc
  have hc := hc_
  clear hc_
  have hd_ := cellB hd hxS
  clear hd
  have hd := hd_
  clear hd_
  have hsl_ := hsl.below hxS hTlt
  clear hsl
  have hsl := hsl_
  clear hsl_
  have hTlt_ := Nat.lt_of_lt_of_le hTlt hxS.size
  clear hTlt
  have hTlt := hTlt_
  clear hTlt_
  have hB_ := BT hB hxS
  clear hB
  have hB := hB_
  clear hB_
  have hL_ := hL.grown hL.lt hxS
  clear hL
  have hL := hL_
  clear hL_
  clear hxS
  rw [hXS]
  clear hXS
  generalize XL.heap.size = SB at *
  refine wp_region_tree (.read 0 (.read 1 (.read 2 (.read 4 (.two 3 (.two 5 (.read 6 (.one 7 (.one 8 (.leaf)))) 7 (.one 5 (.read 6 (.one 8 (.leaf))))) 7 (.one 3 (.one 5 (.read 6 (.one 8 (.leaf)))))))))) (fun X => X.cell? ⟨SB, 0, none⟩ = some (.int .i64 0) ∧ X.cell? ⟨SB, 1, none⟩ = some (.int .i64 32768) ∧ X.cell? ⟨C, 0, none⟩ = some (.int .i64 a) ∧ X.cell? ⟨D, 0, none⟩ = some (.int .i64 b)) (by kernel_rfl) (by kernel_rfl) (fun _ _ d _ _ h => by cases d <;> exact h) ⟨hs.1, hs.2, hc, hd⟩ ?_
  have hx00 : Below XS.heap.size XS XS.drew := Below.drew (Below.refl _ _)
  have hbp_ := hbp.grown hx00
  clear hbp
  have hbp := hbp_
  clear hbp_
  have hm_ := hm.below hx00 (Nat.le_refl _)
  clear hm
  have hm := hm_
  clear hm_
  have hc_ := cellB hc hx00
  clear hc
  have hc := hc_
  clear hc_
  have hd_ := cellB hd hx00
  clear hd
  have hd := hd_
  clear hd_
  have hsl_ := hsl.below hx00 hTlt
  clear hsl
  have hsl := hsl_
  clear hsl_
  have hTlt_ := Nat.lt_of_lt_of_le hTlt hx00.size
  clear hTlt
  have hTlt := hTlt_
  clear hTlt_
  have hB_ := BT hB hx00
  clear hB
  have hB := hB_
  clear hB_
  have hL_ := hL.grown hL.lt hx00
  clear hL
  have hL := hL_
  clear hL_
  have hs_ := And.intro (cellB hs.1 hx00) (cellB hs.2 hx00)
  clear hs
  have hs := hs_
  clear hs_
  clear hx00
  generalize XS.drew = XD at *
  repeat (first | (refine tr_read rfl (by rfl) _ (fun w' hS => by (try dsimp only at hS); go_simp; (try with_reducible rfl)) ?_; (try simp only [Act.put, List.setIfInBounds_toArray, List.set_cons_zero, List.set_cons_succ])) | (refine tr_skip rfl (by rfl) ?_; (try simp only [Act.put, List.setIfInBounds_toArray, List.set_cons_zero, List.set_cons_succ])))
  refine ⟨?_, ?_⟩
  · skip
    refine tr_step rfl (by rfl) (fun K hK => ?_)
    go_simp
    refine (only_any a XD).mono ?_
    rintro e Y1 ⟨rfl, hy1⟩
    have hbp_ := hbp.grown hy1
    clear hbp
    have hbp := hbp_
    clear hbp_
    have hm_ := hm.below hy1 (Nat.le_refl _)
    clear hm
    have hm := hm_
    clear hm_
    have hc_ := cellB hc hy1
    clear hc
    have hc := hc_
    clear hc_
    have hd_ := cellB hd hy1
    clear hd
    have hd := hd_
    clear hd_
    have hsl_ := hsl.below hy1 hTlt
    clear hsl
    have hsl := hsl_
    clear hsl_
    have hTlt_ := Nat.lt_of_lt_of_le hTlt hy1.size
    clear hTlt
    have hTlt := hTlt_
    clear hTlt_
    have hB_ := BT hB hy1
    clear hB
    have hB := hB_
    clear hB_
    have hL_ := hL.grown hL.lt hy1
    clear hL
    have hL := hL_
    clear hL_
    have hs_ := And.intro (cellB hs.1 hy1) (cellB hs.2 hy1)
    clear hs
    have hs := hs_
    clear hs_
    clear hy1
    refine hK _ _ ⟨hs.1, hs.2, hc, hd⟩ ?_
    clear hK K
    (try simp only [Act.put, List.setIfInBounds_toArray, List.set_cons_zero, List.set_cons_succ])
    refine ⟨?_, ?_⟩
    · skip
      refine tr_step rfl (by rfl) (fun K hK => ?_)
      go_simp
      refine (only_any b Y1).mono ?_
      rintro e Y2 ⟨rfl, hy2⟩
      have hbp_ := hbp.grown hy2
      clear hbp
      have hbp := hbp_
      clear hbp_
      have hm_ := hm.below hy2 (Nat.le_refl _)
      clear hm
      have hm := hm_
      clear hm_
      have hc_ := cellB hc hy2
      clear hc
      have hc := hc_
      clear hc_
      have hd_ := cellB hd hy2
      clear hd
      have hd := hd_
      clear hd_
      have hsl_ := hsl.below hy2 hTlt
      clear hsl
      have hsl := hsl_
      clear hsl_
      have hTlt_ := Nat.lt_of_lt_of_le hTlt hy2.size
      clear hTlt
      have hTlt := hTlt_
      clear hTlt_
      have hB_ := BT hB hy2
      clear hB
      have hB := hB_
      clear hB_
      have hL_ := hL.grown hL.lt hy2
      clear hL
      have hL := hL_
      clear hL_
      have hs_ := And.intro (cellB hs.1 hy2) (cellB hs.2 hy2)
      clear hs
      have hs := hs_
      clear hs_
      clear hy2
      refine hK _ _ ⟨hs.1, hs.2, hc, hd⟩ ?_
      clear hK K
      (try simp only [Act.put, List.setIfInBounds_toArray, List.set_cons_zero, List.set_cons_succ])
      repeat (first | (refine tr_read rfl (by rfl) _ (fun w' hS => by (try dsimp only at hS); go_simp; (try with_reducible rfl)) ?_; (try simp only [Act.put, List.setIfInBounds_toArray, List.set_cons_zero, List.set_cons_succ])) | (refine tr_skip rfl (by rfl) ?_; (try simp only [Act.put, List.setIfInBounds_toArray, List.set_cons_zero, List.set_cons_succ])))
      refine tr_step rfl (by rfl) (fun K hK => ?_)
      go_simp
      have hy3 : Below Y2.heap.size Y2 (Y2.alloc (.cells #[.int .i64 0, .int .i64 0, .int .i64 0, .int .i64 0, .bool false, .int .i64 0, .int .i64 0, .int .i64 0, .int .i64 0] 60)) := newB _ _
      have hk9 := slots_star Y2 60
      refine hK _ _ ⟨cellB hs.1 hy3, cellB hs.2 hy3, cellB hc hy3, cellB hd hy3⟩ ?_
      clear hK K hy3
      (try simp only [Act.put, List.setIfInBounds_toArray, List.set_cons_zero, List.set_cons_succ])
      refine tr_last rfl (by rfl) (by kernel_rfl) (fun K hK => ?_)
      go_simp
      refine hK _ _ ?_
      clear hK K
      first | show Exit.inBlock _ _ Exit.normal _ _ | show Exit.then _ _ Exit.normal _ _ | skip
      clear hc hd hs hbp
      obtain ⟨XF, hXF⟩ : ∃ X, Y2.alloc (.cells #[.int .i64 0, .int .i64 32768, .int .i64 0, .int .i64 32768, .bool true, .int .i64 a, .int .i64 a, .int .i64 b, .int .i64 b] 60) = X := ⟨_, rfl⟩
      have hxF : Below Y2.heap.size Y2 XF := by rw [← hXF]; exact newB _ _
      have hsa : StAt (soughtS a b) Y2.heap.size 0 XF := by rw [← hXF]; exact StAt.new (soughtS a b) 60 Y2
      have hm_ := hm.below hxF (Nat.le_refl _)
      clear hm
      have hm := hm_
      clear hm_
      have hsl_ := hsl.below hxF hTlt
      clear hsl
      have hsl := hsl_
      clear hsl_
      have hTlt_ := Nat.lt_of_lt_of_le hTlt hxF.size
      clear hTlt
      have hTlt := hTlt_
      clear hTlt_
      have hB_ := BT hB hxF
      clear hB
      have hB := hB_
      clear hB_
      have hL_ := hL.grown hL.lt hxF
      clear hL
      have hL := hL_
      clear hL_
      clear hxF hk9
      rw [hXF]
      clear hXF
      generalize Y2.heap.size = KS at *
      obtain ⟨a0, a1, a2, a3, a4, a5, a6, a7, a8⟩ := id hsa
      simp only [Nat.zero_add, soughtS] at a0 a1 a2 a3 a4 a5 a6 a7 a8
      go_wp2_with fail
      clear a0 a1 a2 a3 a4 a5 a6 a7 a8
      refine (isSky_any a a XF).mono ?_
      rintro e X2 ⟨rfl, hx2⟩
      have hm_ := hm.below hx2 (Nat.le_refl _)
      clear hm
      have hm := hm_
      clear hm_
      have hsl_ := hsl.below hx2 hTlt
      clear hsl
      have hsl := hsl_
      clear hsl_
      have hTlt_ := Nat.lt_of_lt_of_le hTlt hx2.size
      clear hTlt
      have hTlt := hTlt_
      clear hTlt_
      have hB_ := BT hB hx2
      clear hB
      have hB := hB_
      clear hB_
      have hL_ := hL.grown hL.lt hx2
      clear hL
      have hL := hL_
      clear hL_
      have hsa_ := hsa.below hx2 hsa.lt
      clear hsa
      have hsa := hsa_
      clear hsa_
      clear hx2
      obtain ⟨a0, a1, a2, a3, a4, a5, a6, a7, a8⟩ := id hsa
      simp only [Nat.zero_add, soughtS] at a0 a1 a2 a3 a4 a5 a6 a7 a8
      cases hsk : skyB a a
      · go_wp2_with fail
        have hRe : R = .error 2 := by rw [← HR1.out, hsk]; rfl
        refine (insist_no 2 X2).mono ?_
        rintro e X ⟨rfl, hX⟩
        rw [hRe]
        exact ⟨rfl, rfl, BT hB hX⟩
      have HSA := Lib.hid hsk
      clear hsk
      go_wp2_with fail
      clear a0 a1 a2 a3 a4 a5 a6 a7 a8
      refine (isSky_any b b X2).mono ?_
      rintro e X3 ⟨rfl, hx3⟩
      have hm_ := hm.below hx3 (Nat.le_refl _)
      clear hm
      have hm := hm_
      clear hm_
      have hsl_ := hsl.below hx3 hTlt
      clear hsl
      have hsl := hsl_
      clear hsl_
      have hTlt_ := Nat.lt_of_lt_of_le hTlt hx3.size
      clear hTlt
      have hTlt := hTlt_
      clear hTlt_
      have hB_ := BT hB hx3
      clear hB
      have hB := hB_
      clear hB_
      have hL_ := hL.grown hL.lt hx3
      clear hL
      have hL := hL_
      clear hL_
      have hsa_ := hsa.below hx3 hsa.lt
      clear hsa
      have hsa := hsa_
      clear hsa_
      clear hx3
      cases hsk : skyB b b
      · go_wp2_with fail
        have hRe : R = .error 2 := by rw [← HR1.out, HSA.out, hsk]; rfl
        refine (insist_no 2 X3).mono ?_
        rintro e X ⟨rfl, hX⟩
        rw [hRe]
        exact ⟨rfl, rfl, BT hB hX⟩
      have HSB := Lib.hid hsk
      have HRi := Lib.hid HR1.out
      rw [HSA.out, HSB.out, if_pos (by rfl)] at HRi
      clear hsk HR1
      go_wp2_with fail
      refine (insist_yes 2 X3).mono ?_
      rintro e X4 ⟨rfl, hx4⟩
      have hm_ := hm.below hx4 (Nat.le_refl _)
      clear hm
      have hm := hm_
      clear hm_
      have hsl_ := hsl.below hx4 hTlt
      clear hsl
      have hsl := hsl_
      clear hsl_
      have hTlt_ := Nat.lt_of_lt_of_le hTlt hx4.size
      clear hTlt
      have hTlt := hTlt_
      clear hTlt_
      have hB_ := BT hB hx4
      clear hB
      have hB := hB_
      clear hB_
      have hL_ := hL.grown hL.lt hx4
      clear hL
      have hL := hL_
      clear hL_
      have hsa_ := hsa.below hx4 hsa.lt
      clear hsa
      have hsa := hsa_
      clear hsa_
      clear hx4
      obtain ⟨b0, b1, b2, b3, b4, b5, b6, b7, b8, b9, b10⟩ := id hL
      go_wp2_with fail
      clear b0 b1 b2 b3 b4 b5 b6 b7 b8 b9 b10
      unfold tellK at HRi
      by_cases ht : trA p ss = []
      · have hRe : R = .error 10 := by rw [← HRi.out, if_pos ht]
        refine (truths_no p ss X4 hm hok ht).mono ?_
        rintro e X ⟨rfl, hX⟩
        rw [hRe]
        exact ⟨rfl, rfl, BT hB hX⟩
      have HR2 := Lib.hid HRi.out
      rw [if_neg ht] at HR2
      clear HRi
      refine (truths_ok p ss X4 hm hok ht).mono ?_
      rintro e X5 ⟨mb, ⟨rfl, hO⟩, hmb, hx5⟩
      have hm_ := hm.below hx5 (Nat.le_refl _)
      clear hm
      have hm := hm_
      clear hm_
      have hsl_ := hsl.below hx5 hTlt
      clear hsl
      have hsl := hsl_
      clear hsl_
      have hTlt_ := Nat.lt_of_lt_of_le hTlt hx5.size
      clear hTlt
      have hTlt := hTlt_
      clear hTlt_
      have hB_ := BT hB hx5
      clear hB
      have hB := hB_
      clear hB_
      have hL_ := hL.grown hL.lt hx5
      clear hL
      have hL := hL_
      clear hL_
      have hsa_ := hsa.below hx5 hsa.lt
      clear hsa
      have hsa := hsa_
      clear hsa_
      clear hx5
      unfold truV sideV
      simp only [List.append_toArray, List.cons_append, List.nil_append]
      obtain ⟨XT, hXT⟩ : ∃ X, X5.alloc (.cells #[.int .i64 p.lo, .int .i64 p.hi, .slice p.a p.n p.cap, .func (.func 133) #[] #[], .int .i64 p.lo, .int .i64 p.hi, .slice p.a p.n p.cap, .func (.func 134) #[] #[], .map (some mb)] 74) = X := ⟨_, rfl⟩
      have hQ := boxT_new X5 p mb
      rw [hXT] at hQ
      have hxT : Below X5.heap.size X5 XT := by rw [← hXT]; exact newB _ _
      have hm_ := hm.below hxT (Nat.le_refl _)
      clear hm
      have hm := hm_
      clear hm_
      have hsl_ := hsl.below hxT hTlt
      clear hsl
      have hsl := hsl_
      clear hsl_
      have hTlt_ := Nat.lt_of_lt_of_le hTlt hxT.size
      clear hTlt
      have hTlt := hTlt_
      clear hTlt_
      have hB_ := BT hB hxT
      clear hB
      have hB := hB_
      clear hB_
      have hL_ := hL.grown hL.lt hxT
      clear hL
      have hL := hL_
      clear hL_
      have hsa_ := hsa.below hxT hsa.lt
      clear hsa
      have hsa := hsa_
      clear hsa_
      have hO_ := hO.kept (gB hxT none) (by simp)
      clear hO
      have hO := hO_
      clear hO_
      clear hxT
      obtain ⟨b0, b1, b2, b3, b4, b5, b6, b7, b8, b9, b10⟩ := id hL
      go_wp2_with fail
      clear hXT b0 b1 b2 b3 b4 b5 b6 b7 b8 b9 b10
      generalize X5.heap.size = H at *
      have hn12 : p.n ≤ 12 := by have := hok.n10; omega
      by_cases hkn : knownTo ss p.n = 0
      · have hRe : R = .error 12 := by rw [← HR2.out, if_pos hkn]
        refine (insistKnown_no p ss XT hm hn12 hkn).mono ?_
        rintro e X ⟨rfl, hX⟩
        rw [hRe]
        exact ⟨rfl, rfl, BT hB hX⟩
      have HR3 := Lib.hid HR2.out
      rw [if_neg hkn] at HR3
      clear HR2
      refine (insistKnown_ok p ss XT hm hn12 hkn).mono ?_
      rintro e X6 ⟨rfl, hx6⟩
      have hm_ := hm.below hx6 (Nat.le_refl _)
      clear hm
      have hm := hm_
      clear hm_
      have hsl_ := hsl.below hx6 hTlt
      clear hsl
      have hsl := hsl_
      clear hsl_
      have hTlt_ := Nat.lt_of_lt_of_le hTlt hx6.size
      clear hTlt
      have hTlt := hTlt_
      clear hTlt_
      have hB_ := BT hB hx6
      clear hB
      have hB := hB_
      clear hB_
      have hL_ := hL.grown hL.lt hx6
      clear hL
      have hL := hL_
      clear hL_
      have hsa_ := hsa.below hx6 hsa.lt
      clear hsa
      have hsa := hsa_
      clear hsa_
      have hO_ := hO.kept (gB hx6 none) (by simp)
      clear hO
      have hO := hO_
      clear hO_
      have hQ_ := And.intro (hQ.1.grown hx6) (cellB hQ.2 hx6)
      clear hQ
      have hQ := hQ_
      clear hQ_
      clear hx6
      have hks := Lib.hid (sought_rng HSA.out HSB.out)
      obtain ⟨⟨t0, t1, t2, t3, t4, t5, t6, t7⟩, t8⟩ := id hQ
      go_wp2_with fail
      clear t0 t1 t2 t3 t4 t5 t6 t7 t8
      have hA := along_any p mb (trA p ss).length (trA p ss) (trL_apart p ss _) 64 #[.pointer (some ⟨KS, 0, none⟩)] (fun d x => fiS x.sc (x.lo d) (x.hi d) (soughtS a b) d) X6 (enters_of Tryz.func64 (by kernel_rfl) rfl) hO (fun d x hx Y hY => by have hs := trL_ok hok hx; exact findC_any d x.sc (x.lo d) (x.hi d) p (soughtS a b) KS Y hs.s0 hs.s1 (hs.lo d) (hs.hi d) (hks.out d).1 (hks.out d).2 (hsa.below hY hsa.lt))
      have HR9 : Hid (alongR (kepL ((fun d x => fiS x.sc (x.lo d) (x.hi d) (soughtS a b) d) false) (trA p ss)) (kepL ((fun d x => fiS x.sc (x.lo d) (x.hi d) (soughtS a b) d) true) (trA p ss)) = R) := HR3.out
      obtain ⟨r, hr⟩ : ∃ r, alongR (kepL ((fun d x => fiS x.sc (x.lo d) (x.hi d) (soughtS a b) d) false) (trA p ss)) (kepL ((fun d x => fiS x.sc (x.lo d) (x.hi d) (soughtS a b) d) true) (trA p ss)) = r := ⟨_, rfl⟩
      have hfour := along_four (kepL ((fun d x => fiS x.sc (x.lo d) (x.hi d) (soughtS a b) d) false) (trA p ss)) (kepL ((fun d x => fiS x.sc (x.lo d) (x.hi d) (soughtS a b) d) true) (trA p ss))
      rw [hr] at hA hfour
      have hRr : R = r := by rw [← HR9.out, hr]
      have HRr := Lib.hid hRr
      clear hRr hr HR9
      unfold truV sideV at hA
      simp only [List.append_toArray, List.cons_append, List.nil_append] at hA
      cases r with
      | error c =>
        refine hA.mono ?_
        rintro e X ⟨rfl, hX⟩
        rw [HRr.out]
        exact ⟨rfl, rfl, BT hB hX⟩
      | ok v =>
        obtain ⟨va, vb, vc, vd, rfl⟩ := hfour v rfl
        refine hA.mono ?_
        rintro e X ⟨rfl, hX⟩
        have hsl9 := hsl.below hX hTlt
        have hB9 := BT hB hX
        obtain ⟨x0, q0, z0⟩ := hsl9.get 0 (by omega)
        obtain ⟨x1, q1, z1⟩ := hsl9.get 1 (by omega)
        obtain ⟨x2, q2, z2⟩ := hsl9.get 2 (by omega)
        obtain ⟨x3, q3, z3⟩ := hsl9.get 3 (by omega)
        have hfin := (BC (BC (BC (BC hB9 (w.heap.size) 0 (by omega) (.int .i64 va)) (w.heap.size) 1 (by omega) (.int .i64 vb)) (w.heap.size) 2 (by omega) (.int .i64 vc)) (w.heap.size) 3 (by omega) (.int .i64 vd))
        clear hX hsl9 hB9 hA
        go_wp2_with fail
        rw [HRr.out]
        exact bodyPost_ret (v := .agg #[.int .i64 va, .int .i64 vb, .int .i64 vc, .int .i64 vd]) (by simp [results, Tryz.results60, go_sem, q0, q1, q2, q3]) rfl ⟨rfl, hfin⟩
    · skip
      refine tr_step rfl (by rfl) (fun K hK => ?_)
      go_simp
      have hy5 : Below Y1.heap.size Y1 (Y1.alloc (.cells #[.int .i64 0, .int .i64 0, .int .i64 0, .int .i64 0, .bool false, .int .i64 0, .int .i64 0, .int .i64 0, .int .i64 0] 60)) := newB _ _
      have hk9 := slots_star Y1 60
      have hklt : Y1.heap.size < (Y1.alloc (.cells #[.int .i64 0, .int .i64 0, .int .i64 0, .int .i64 0, .bool false, .int .i64 0, .int .i64 0, .int .i64 0, .int .i64 0] 60)).heap.size := by simp
      have hwK : w.heap.size < Y1.heap.size := hTlt
      have hGK : G < Y1.heap.size := hL.lt
      have hbp_ := hbp.grown hy5
      clear hbp
      have hbp := hbp_
      clear hbp_
      have hm_ := hm.below hy5 (Nat.le_refl _)
      clear hm
      have hm := hm_
      clear hm_
      have hc_ := cellB hc hy5
      clear hc
      have hc := hc_
      clear hc_
      have hd_ := cellB hd hy5
      clear hd
      have hd := hd_
      clear hd_
      have hsl_ := hsl.below hy5 hTlt
      clear hsl
      have hsl := hsl_
      clear hsl_
      have hTlt_ := Nat.lt_of_lt_of_le hTlt hy5.size
      clear hTlt
      have hTlt := hTlt_
      clear hTlt_
      have hB_ := BT hB hy5
      clear hB
      have hB := hB_
      clear hB_
      have hL_ := hL.grown hL.lt hy5
      clear hL
      have hL := hL_
      clear hL_
      have hs_ := And.intro (cellB hs.1 hy5) (cellB hs.2 hy5)
      clear hs
      have hs := hs_
      clear hs_
      clear hy5
      generalize Y1.heap.size = KS at *
      generalize Y1.alloc (.cells #[.int .i64 0, .int .i64 0, .int .i64 0, .int .i64 0, .bool false, .int .i64 0, .int .i64 0, .int .i64 0, .int .i64 0] 60) = Y5 at *
      refine hK _ _ ⟨hs.1, hs.2, hc, hd⟩ ?_
      clear hK K
      (try simp only [Act.put, List.setIfInBounds_toArray, List.set_cons_zero, List.set_cons_succ])
      refine tr_step rfl (by rfl) (fun K hK => ?_)
      go_simp
      refine (only_any b Y5).mono ?_
      rintro e Y6 ⟨rfl, hy6⟩
      have hbp_ := hbp.grown hy6
      clear hbp
      have hbp := hbp_
      clear hbp_
      have hm_ := hm.below hy6 (Nat.le_refl _)
      clear hm
      have hm := hm_
      clear hm_
      have hc_ := cellB hc hy6
      clear hc
      have hc := hc_
      clear hc_
      have hd_ := cellB hd hy6
      clear hd
      have hd := hd_
      clear hd_
      have hsl_ := hsl.below hy6 hTlt
      clear hsl
      have hsl := hsl_
      clear hsl_
      have hTlt_ := Nat.lt_of_lt_of_le hTlt hy6.size
      clear hTlt
      have hTlt := hTlt_
      clear hTlt_
      have hB_ := BT hB hy6
      clear hB
      have hB := hB_
      clear hB_
      have hL_ := hL.grown hL.lt hy6
      clear hL
      have hL := hL_
      clear hL_
      have hs_ := And.intro (cellB hs.1 hy6) (cellB hs.2 hy6)
      clear hs
      have hs := hs_
      clear hs_
      have hk9_ := hk9.below hy6 hklt
      clear hk9
      have hk9 := hk9_
      clear hk9_
      have hklt_ := Nat.lt_of_lt_of_le hklt hy6.size
      clear hklt
      have hklt := hklt_
      clear hklt_
      clear hy6
      refine hK _ _ ⟨hs.1, hs.2, hc, hd⟩ ?_
      clear hK K
      (try simp only [Act.put, List.setIfInBounds_toArray, List.set_cons_zero, List.set_cons_succ])
      repeat (first | (refine tr_read rfl (by rfl) _ (fun w' hS => by (try dsimp only at hS); go_simp; (try with_reducible rfl)) ?_; (try simp only [Act.put, List.setIfInBounds_toArray, List.set_cons_zero, List.set_cons_succ])) | (refine tr_skip rfl (by rfl) ?_; (try simp only [Act.put, List.setIfInBounds_toArray, List.set_cons_zero, List.set_cons_succ])))
      refine tr_last rfl (by rfl) (by kernel_rfl) (fun K hK => ?_)
      obtain ⟨v0, w0, u0⟩ := hk9.get 0 (by omega)
      obtain ⟨v1, w1, u1⟩ := hk9.get 1 (by omega)
      obtain ⟨v2, w2, u2⟩ := hk9.get 2 (by omega)
      obtain ⟨v3, w3, u3⟩ := hk9.get 3 (by omega)
      obtain ⟨v4, w4, u4⟩ := hk9.get 4 (by omega)
      obtain ⟨v5, w5, u5⟩ := hk9.get 5 (by omega)
      obtain ⟨v6, w6, u6⟩ := hk9.get 6 (by omega)
      obtain ⟨v7, w7, u7⟩ := hk9.get 7 (by omega)
      obtain ⟨v8, w8, u8⟩ := hk9.get 8 (by omega)
      go_simp
      refine hK _ _ ?_
      clear hK K w0 u0 w1 u1 w2 u2 w3 u3 w4 u4 w5 u5 w6 u6 w7 u7 w8 u8
      first | show Exit.inBlock _ _ Exit.normal _ _ | show Exit.then _ _ Exit.normal _ _ | skip
      clear hc hd hs hbp
      have hsa := star_set hk9 (soughtS a b)
      dsimp only [soughtS] at hsa
      have hB_ := (BC (BC (BC (BC (BC (BC (BC (BC (BC hB KS 0 (Nat.le_of_lt hwK) (.int .i64 0)) KS 1 (Nat.le_of_lt hwK) (.int .i64 32768)) KS 2 (Nat.le_of_lt hwK) (.int .i64 0)) KS 3 (Nat.le_of_lt hwK) (.int .i64 32768)) KS 4 (Nat.le_of_lt hwK) (.bool true)) KS 5 (Nat.le_of_lt hwK) (.int .i64 a)) KS 6 (Nat.le_of_lt hwK) (.int .i64 a)) KS 7 (Nat.le_of_lt hwK) (.int .i64 b)) KS 8 (Nat.le_of_lt hwK) (.int .i64 b))
      have hsl_ := (((((((((hsl.set ⟨KS, 0, none⟩ (.int .i64 0)).set ⟨KS, 1, none⟩ (.int .i64 32768)).set ⟨KS, 2, none⟩ (.int .i64 0)).set ⟨KS, 3, none⟩ (.int .i64 32768)).set ⟨KS, 4, none⟩ (.bool true)).set ⟨KS, 5, none⟩ (.int .i64 a)).set ⟨KS, 6, none⟩ (.int .i64 a)).set ⟨KS, 7, none⟩ (.int .i64 b)).set ⟨KS, 8, none⟩ (.int .i64 b))
      have hg_ : Y6.grownBy ((((((((((Y6.setCell ⟨KS, 0, none⟩ (.int .i64 0)).setCell ⟨KS, 1, none⟩ (.int .i64 32768)).setCell ⟨KS, 2, none⟩ (.int .i64 0)).setCell ⟨KS, 3, none⟩ (.int .i64 32768)).setCell ⟨KS, 4, none⟩ (.bool true)).setCell ⟨KS, 5, none⟩ (.int .i64 a)).setCell ⟨KS, 6, none⟩ (.int .i64 a)).setCell ⟨KS, 7, none⟩ (.int .i64 b)).setCell ⟨KS, 8, none⟩ (.int .i64 b))) (some KS) := (gT (gT (gT (gT (gT (gT (gT (gT (gC _ KS 0 _) (gC _ KS 1 _)) (gC _ KS 2 _)) (gC _ KS 3 _)) (gC _ KS 4 _)) (gC _ KS 5 _)) (gC _ KS 6 _)) (gC _ KS 7 _)) (gC _ KS 8 _))
      have hL_ := hL.same (hg_.block G hL.lt (fun e => by injection e with e; omega))
      have hTlt_ := Nat.lt_of_lt_of_le hTlt hg_.size
      have hm_ := hm0.below hB_ (Nat.le_refl _)
      clear hB hsl hL hTlt hm hg_ hk9 hklt
      generalize (((((((((Y6.setCell ⟨KS, 0, none⟩ (.int .i64 0)).setCell ⟨KS, 1, none⟩ (.int .i64 32768)).setCell ⟨KS, 2, none⟩ (.int .i64 0)).setCell ⟨KS, 3, none⟩ (.int .i64 32768)).setCell ⟨KS, 4, none⟩ (.bool true)).setCell ⟨KS, 5, none⟩ (.int .i64 a)).setCell ⟨KS, 6, none⟩ (.int .i64 a)).setCell ⟨KS, 7, none⟩ (.int .i64 b)).setCell ⟨KS, 8, none⟩ (.int .i64 b)) = XF at *
      have hB := hB_
      have hsl := hsl_
      have hL := hL_
      have hTlt := hTlt_
      have hm := hm_
      clear hB_ hsl_ hL_ hTlt_ hm_
      have hsa : StAt (soughtS a b) KS 0 XF := hsa
      obtain ⟨a0, a1, a2, a3, a4, a5, a6, a7, a8⟩ := id hsa
      simp only [Nat.zero_add, soughtS] at a0 a1 a2 a3 a4 a5 a6 a7 a8
      go_wp2_with fail
      clear a0 a1 a2 a3 a4 a5 a6 a7 a8
      refine (isSky_any a a XF).mono ?_
      rintro e X2 ⟨rfl, hx2⟩
      have hm_ := hm.below hx2 (Nat.le_refl _)
      clear hm
      have hm := hm_
      clear hm_
      have hsl_ := hsl.below hx2 hTlt
      clear hsl
      have hsl := hsl_
      clear hsl_
      have hTlt_ := Nat.lt_of_lt_of_le hTlt hx2.size
      clear hTlt
      have hTlt := hTlt_
      clear hTlt_
      have hB_ := BT hB hx2
      clear hB
      have hB := hB_
      clear hB_
      have hL_ := hL.grown hL.lt hx2
      clear hL
      have hL := hL_
      clear hL_
      have hsa_ := hsa.below hx2 hsa.lt
      clear hsa
      have hsa := hsa_
      clear hsa_
      clear hx2
      obtain ⟨a0, a1, a2, a3, a4, a5, a6, a7, a8⟩ := id hsa
      simp only [Nat.zero_add, soughtS] at a0 a1 a2 a3 a4 a5 a6 a7 a8
      cases hsk : skyB a a
      · go_wp2_with fail
        have hRe : R = .error 2 := by rw [← HR1.out, hsk]; rfl
        refine (insist_no 2 X2).mono ?_
        rintro e X ⟨rfl, hX⟩
        rw [hRe]
        exact ⟨rfl, rfl, BT hB hX⟩
      have HSA := Lib.hid hsk
      clear hsk
      go_wp2_with fail
      clear a0 a1 a2 a3 a4 a5 a6 a7 a8
      refine (isSky_any b b X2).mono ?_
      rintro e X3 ⟨rfl, hx3⟩
      have hm_ := hm.below hx3 (Nat.le_refl _)
      clear hm
      have hm := hm_
      clear hm_
      have hsl_ := hsl.below hx3 hTlt
      clear hsl
      have hsl := hsl_
      clear hsl_
      have hTlt_ := Nat.lt_of_lt_of_le hTlt hx3.size
      clear hTlt
      have hTlt := hTlt_
      clear hTlt_
      have hB_ := BT hB hx3
      clear hB
      have hB := hB_
      clear hB_
      have hL_ := hL.grown hL.lt hx3
      clear hL
      have hL := hL_
      clear hL_
      have hsa_ := hsa.below hx3 hsa.lt
      clear hsa
      have hsa := hsa_
      clear hsa_
      clear hx3
      cases hsk : skyB b b
      · go_wp2_with fail
        have hRe : R = .error 2 := by rw [← HR1.out, HSA.out, hsk]; rfl
        refine (insist_no 2 X3).mono ?_
        rintro e X ⟨rfl, hX⟩
        rw [hRe]
        exact ⟨rfl, rfl, BT hB hX⟩
      have HSB := Lib.hid hsk
      have HRi := Lib.hid HR1.out
      rw [HSA.out, HSB.out, if_pos (by rfl)] at HRi
      clear hsk HR1
      go_wp2_with fail
      refine (insist_yes 2 X3).mono ?_
      rintro e X4 ⟨rfl, hx4⟩
      have hm_ := hm.below hx4 (Nat.le_refl _)
      clear hm
      have hm := hm_
      clear hm_
      have hsl_ := hsl.below hx4 hTlt
      clear hsl
      have hsl := hsl_
      clear hsl_
      have hTlt_ := Nat.lt_of_lt_of_le hTlt hx4.size
      clear hTlt
      have hTlt := hTlt_
      clear hTlt_
      have hB_ := BT hB hx4
      clear hB
      have hB := hB_
      clear hB_
      have hL_ := hL.grown hL.lt hx4
      clear hL
      have hL := hL_
      clear hL_
      have hsa_ := hsa.below hx4 hsa.lt
      clear hsa
      have hsa := hsa_
      clear hsa_
      clear hx4
      obtain ⟨b0, b1, b2, b3, b4, b5, b6, b7, b8, b9, b10⟩ := id hL
      go_wp2_with fail
      clear b0 b1 b2 b3 b4 b5 b6 b7 b8 b9 b10
      unfold tellK at HRi
      by_cases ht : trA p ss = []
      · have hRe : R = .error 10 := by rw [← HRi.out, if_pos ht]
        refine (truths_no p ss X4 hm hok ht).mono ?_
        rintro e X ⟨rfl, hX⟩
        rw [hRe]
        exact ⟨rfl, rfl, BT hB hX⟩
      have HR2 := Lib.hid HRi.out
      rw [if_neg ht] at HR2
      clear HRi
      refine (truths_ok p ss X4 hm hok ht).mono ?_
      rintro e X5 ⟨mb, ⟨rfl, hO⟩, hmb, hx5⟩
      have hm_ := hm.below hx5 (Nat.le_refl _)
      clear hm
      have hm := hm_
      clear hm_
      have hsl_ := hsl.below hx5 hTlt
      clear hsl
      have hsl := hsl_
      clear hsl_
      have hTlt_ := Nat.lt_of_lt_of_le hTlt hx5.size
      clear hTlt
      have hTlt := hTlt_
      clear hTlt_
      have hB_ := BT hB hx5
      clear hB
      have hB := hB_
      clear hB_
      have hL_ := hL.grown hL.lt hx5
      clear hL
      have hL := hL_
      clear hL_
      have hsa_ := hsa.below hx5 hsa.lt
      clear hsa
      have hsa := hsa_
      clear hsa_
      clear hx5
      unfold truV sideV
      simp only [List.append_toArray, List.cons_append, List.nil_append]
      obtain ⟨XT, hXT⟩ : ∃ X, X5.alloc (.cells #[.int .i64 p.lo, .int .i64 p.hi, .slice p.a p.n p.cap, .func (.func 133) #[] #[], .int .i64 p.lo, .int .i64 p.hi, .slice p.a p.n p.cap, .func (.func 134) #[] #[], .map (some mb)] 74) = X := ⟨_, rfl⟩
      have hQ := boxT_new X5 p mb
      rw [hXT] at hQ
      have hxT : Below X5.heap.size X5 XT := by rw [← hXT]; exact newB _ _
      have hm_ := hm.below hxT (Nat.le_refl _)
      clear hm
      have hm := hm_
      clear hm_
      have hsl_ := hsl.below hxT hTlt
      clear hsl
      have hsl := hsl_
      clear hsl_
      have hTlt_ := Nat.lt_of_lt_of_le hTlt hxT.size
      clear hTlt
      have hTlt := hTlt_
      clear hTlt_
      have hB_ := BT hB hxT
      clear hB
      have hB := hB_
      clear hB_
      have hL_ := hL.grown hL.lt hxT
      clear hL
      have hL := hL_
      clear hL_
      have hsa_ := hsa.below hxT hsa.lt
      clear hsa
      have hsa := hsa_
      clear hsa_
      have hO_ := hO.kept (gB hxT none) (by simp)
      clear hO
      have hO := hO_
      clear hO_
      clear hxT
      obtain ⟨b0, b1, b2, b3, b4, b5, b6, b7, b8, b9, b10⟩ := id hL
      go_wp2_with fail
      clear hXT b0 b1 b2 b3 b4 b5 b6 b7 b8 b9 b10
      generalize X5.heap.size = H at *
      have hn12 : p.n ≤ 12 := by have := hok.n10; omega
      by_cases hkn : knownTo ss p.n = 0
      · have hRe : R = .error 12 := by rw [← HR2.out, if_pos hkn]
        refine (insistKnown_no p ss XT hm hn12 hkn).mono ?_
        rintro e X ⟨rfl, hX⟩
        rw [hRe]
        exact ⟨rfl, rfl, BT hB hX⟩
      have HR3 := Lib.hid HR2.out
      rw [if_neg hkn] at HR3
      clear HR2
      refine (insistKnown_ok p ss XT hm hn12 hkn).mono ?_
      rintro e X6 ⟨rfl, hx6⟩
      have hm_ := hm.below hx6 (Nat.le_refl _)
      clear hm
      have hm := hm_
      clear hm_
      have hsl_ := hsl.below hx6 hTlt
      clear hsl
      have hsl := hsl_
      clear hsl_
      have hTlt_ := Nat.lt_of_lt_of_le hTlt hx6.size
      clear hTlt
      have hTlt := hTlt_
      clear hTlt_
      have hB_ := BT hB hx6
      clear hB
      have hB := hB_
      clear hB_
      have hL_ := hL.grown hL.lt hx6
      clear hL
      have hL := hL_
      clear hL_
      have hsa_ := hsa.below hx6 hsa.lt
      clear hsa
      have hsa := hsa_
      clear hsa_
      have hO_ := hO.kept (gB hx6 none) (by simp)
      clear hO
      have hO := hO_
      clear hO_
      have hQ_ := And.intro (hQ.1.grown hx6) (cellB hQ.2 hx6)
      clear hQ
      have hQ := hQ_
      clear hQ_
      clear hx6
      have hks := Lib.hid (sought_rng HSA.out HSB.out)
      obtain ⟨⟨t0, t1, t2, t3, t4, t5, t6, t7⟩, t8⟩ := id hQ
      go_wp2_with fail
      clear t0 t1 t2 t3 t4 t5 t6 t7 t8
      have hA := along_any p mb (trA p ss).length (trA p ss) (trL_apart p ss _) 64 #[.pointer (some ⟨KS, 0, none⟩)] (fun d x => fiS x.sc (x.lo d) (x.hi d) (soughtS a b) d) X6 (enters_of Tryz.func64 (by kernel_rfl) rfl) hO (fun d x hx Y hY => by have hs := trL_ok hok hx; exact findC_any d x.sc (x.lo d) (x.hi d) p (soughtS a b) KS Y hs.s0 hs.s1 (hs.lo d) (hs.hi d) (hks.out d).1 (hks.out d).2 (hsa.below hY hsa.lt))
      have HR9 : Hid (alongR (kepL ((fun d x => fiS x.sc (x.lo d) (x.hi d) (soughtS a b) d) false) (trA p ss)) (kepL ((fun d x => fiS x.sc (x.lo d) (x.hi d) (soughtS a b) d) true) (trA p ss)) = R) := HR3.out
      obtain ⟨r, hr⟩ : ∃ r, alongR (kepL ((fun d x => fiS x.sc (x.lo d) (x.hi d) (soughtS a b) d) false) (trA p ss)) (kepL ((fun d x => fiS x.sc (x.lo d) (x.hi d) (soughtS a b) d) true) (trA p ss)) = r := ⟨_, rfl⟩
      have hfour := along_four (kepL ((fun d x => fiS x.sc (x.lo d) (x.hi d) (soughtS a b) d) false) (trA p ss)) (kepL ((fun d x => fiS x.sc (x.lo d) (x.hi d) (soughtS a b) d) true) (trA p ss))
      rw [hr] at hA hfour
      have hRr : R = r := by rw [← HR9.out, hr]
      have HRr := Lib.hid hRr
      clear hRr hr HR9
      unfold truV sideV at hA
      simp only [List.append_toArray, List.cons_append, List.nil_append] at hA
      cases r with
      | error c =>
        refine hA.mono ?_
        rintro e X ⟨rfl, hX⟩
        rw [HRr.out]
        exact ⟨rfl, rfl, BT hB hX⟩
      | ok v =>
        obtain ⟨va, vb, vc, vd, rfl⟩ := hfour v rfl
        refine hA.mono ?_
        rintro e X ⟨rfl, hX⟩
        have hsl9 := hsl.below hX hTlt
        have hB9 := BT hB hX
        obtain ⟨x0, q0, z0⟩ := hsl9.get 0 (by omega)
        obtain ⟨x1, q1, z1⟩ := hsl9.get 1 (by omega)
        obtain ⟨x2, q2, z2⟩ := hsl9.get 2 (by omega)
        obtain ⟨x3, q3, z3⟩ := hsl9.get 3 (by omega)
        have hfin := (BC (BC (BC (BC hB9 (w.heap.size) 0 (by omega) (.int .i64 va)) (w.heap.size) 1 (by omega) (.int .i64 vb)) (w.heap.size) 2 (by omega) (.int .i64 vc)) (w.heap.size) 3 (by omega) (.int .i64 vd))
        clear hX hsl9 hB9 hA
        go_wp2_with fail
        rw [HRr.out]
        exact bodyPost_ret (v := .agg #[.int .i64 va, .int .i64 vb, .int .i64 vc, .int .i64 vd]) (by simp [results, Tryz.results60, go_sem, q0, q1, q2, q3]) rfl ⟨rfl, hfin⟩
  · skip
    refine tr_step rfl (by rfl) (fun K hK => ?_)
    go_simp
    have hy8 : Below XD.heap.size XD (XD.alloc (.cells #[.int .i64 0, .int .i64 0, .int .i64 0, .int .i64 0, .bool false, .int .i64 0, .int .i64 0, .int .i64 0, .int .i64 0] 60)) := newB _ _
    have hk9 := slots_star XD 60
    have hklt : XD.heap.size < (XD.alloc (.cells #[.int .i64 0, .int .i64 0, .int .i64 0, .int .i64 0, .bool false, .int .i64 0, .int .i64 0, .int .i64 0, .int .i64 0] 60)).heap.size := by simp
    have hwK : w.heap.size < XD.heap.size := hTlt
    have hGK : G < XD.heap.size := hL.lt
    have hbp_ := hbp.grown hy8
    clear hbp
    have hbp := hbp_
    clear hbp_
    have hm_ := hm.below hy8 (Nat.le_refl _)
    clear hm
    have hm := hm_
    clear hm_
    have hc_ := cellB hc hy8
    clear hc
    have hc := hc_
    clear hc_
    have hd_ := cellB hd hy8
    clear hd
    have hd := hd_
    clear hd_
    have hsl_ := hsl.below hy8 hTlt
    clear hsl
    have hsl := hsl_
    clear hsl_
    have hTlt_ := Nat.lt_of_lt_of_le hTlt hy8.size
    clear hTlt
    have hTlt := hTlt_
    clear hTlt_
    have hB_ := BT hB hy8
    clear hB
    have hB := hB_
    clear hB_
    have hL_ := hL.grown hL.lt hy8
    clear hL
    have hL := hL_
    clear hL_
    have hs_ := And.intro (cellB hs.1 hy8) (cellB hs.2 hy8)
    clear hs
    have hs := hs_
    clear hs_
    clear hy8
    generalize XD.heap.size = KS at *
    generalize XD.alloc (.cells #[.int .i64 0, .int .i64 0, .int .i64 0, .int .i64 0, .bool false, .int .i64 0, .int .i64 0, .int .i64 0, .int .i64 0] 60) = Y8 at *
    refine hK _ _ ⟨hs.1, hs.2, hc, hd⟩ ?_
    clear hK K
    (try simp only [Act.put, List.setIfInBounds_toArray, List.set_cons_zero, List.set_cons_succ])
    refine tr_step rfl (by rfl) (fun K hK => ?_)
    go_simp
    refine (only_any a Y8).mono ?_
    rintro e Y9 ⟨rfl, hy9⟩
    have hbp_ := hbp.grown hy9
    clear hbp
    have hbp := hbp_
    clear hbp_
    have hm_ := hm.below hy9 (Nat.le_refl _)
    clear hm
    have hm := hm_
    clear hm_
    have hc_ := cellB hc hy9
    clear hc
    have hc := hc_
    clear hc_
    have hd_ := cellB hd hy9
    clear hd
    have hd := hd_
    clear hd_
    have hsl_ := hsl.below hy9 hTlt
    clear hsl
    have hsl := hsl_
    clear hsl_
    have hTlt_ := Nat.lt_of_lt_of_le hTlt hy9.size
    clear hTlt
    have hTlt := hTlt_
    clear hTlt_
    have hB_ := BT hB hy9
    clear hB
    have hB := hB_
    clear hB_
    have hL_ := hL.grown hL.lt hy9
    clear hL
    have hL := hL_
    clear hL_
    have hs_ := And.intro (cellB hs.1 hy9) (cellB hs.2 hy9)
    clear hs
    have hs := hs_
    clear hs_
    have hk9_ := hk9.below hy9 hklt
    clear hk9
    have hk9 := hk9_
    clear hk9_
    have hklt_ := Nat.lt_of_lt_of_le hklt hy9.size
    clear hklt
    have hklt := hklt_
    clear hklt_
    clear hy9
    refine hK _ _ ⟨hs.1, hs.2, hc, hd⟩ ?_
    clear hK K
    (try simp only [Act.put, List.setIfInBounds_toArray, List.set_cons_zero, List.set_cons_succ])
    refine tr_step rfl (by rfl) (fun K hK => ?_)
    go_simp
    refine (only_any b Y9).mono ?_
    rintro e Y10 ⟨rfl, hy10⟩
    have hbp_ := hbp.grown hy10
    clear hbp
    have hbp := hbp_
    clear hbp_
    have hm_ := hm.below hy10 (Nat.le_refl _)
    clear hm
    have hm := hm_
    clear hm_
    have hc_ := cellB hc hy10
    clear hc
    have hc := hc_
    clear hc_
    have hd_ := cellB hd hy10
    clear hd
    have hd := hd_
    clear hd_
    have hsl_ := hsl.below hy10 hTlt
    clear hsl
    have hsl := hsl_
    clear hsl_
    have hTlt_ := Nat.lt_of_lt_of_le hTlt hy10.size
    clear hTlt
    have hTlt := hTlt_
    clear hTlt_
    have hB_ := BT hB hy10
    clear hB
    have hB := hB_
    clear hB_
    have hL_ := hL.grown hL.lt hy10
    clear hL
    have hL := hL_
    clear hL_
    have hs_ := And.intro (cellB hs.1 hy10) (cellB hs.2 hy10)
    clear hs
    have hs := hs_
    clear hs_
    have hk9_ := hk9.below hy10 hklt
    clear hk9
    have hk9 := hk9_
    clear hk9_
    have hklt_ := Nat.lt_of_lt_of_le hklt hy10.size
    clear hklt
    have hklt := hklt_
    clear hklt_
    clear hy10
    refine hK _ _ ⟨hs.1, hs.2, hc, hd⟩ ?_
    clear hK K
    (try simp only [Act.put, List.setIfInBounds_toArray, List.set_cons_zero, List.set_cons_succ])
    repeat (first | (refine tr_read rfl (by rfl) _ (fun w' hS => by (try dsimp only at hS); go_simp; (try with_reducible rfl)) ?_; (try simp only [Act.put, List.setIfInBounds_toArray, List.set_cons_zero, List.set_cons_succ])) | (refine tr_skip rfl (by rfl) ?_; (try simp only [Act.put, List.setIfInBounds_toArray, List.set_cons_zero, List.set_cons_succ])))
    refine tr_last rfl (by rfl) (by kernel_rfl) (fun K hK => ?_)
    obtain ⟨v0, w0, u0⟩ := hk9.get 0 (by omega)
    obtain ⟨v1, w1, u1⟩ := hk9.get 1 (by omega)
    obtain ⟨v2, w2, u2⟩ := hk9.get 2 (by omega)
    obtain ⟨v3, w3, u3⟩ := hk9.get 3 (by omega)
    obtain ⟨v4, w4, u4⟩ := hk9.get 4 (by omega)
    obtain ⟨v5, w5, u5⟩ := hk9.get 5 (by omega)
    obtain ⟨v6, w6, u6⟩ := hk9.get 6 (by omega)
    obtain ⟨v7, w7, u7⟩ := hk9.get 7 (by omega)
    obtain ⟨v8, w8, u8⟩ := hk9.get 8 (by omega)
    go_simp
    refine hK _ _ ?_
    clear hK K w0 u0 w1 u1 w2 u2 w3 u3 w4 u4 w5 u5 w6 u6 w7 u7 w8 u8
    first | show Exit.inBlock _ _ Exit.normal _ _ | show Exit.then _ _ Exit.normal _ _ | skip
    clear hc hd hs hbp
    have hsa := star_set hk9 (soughtS a b)
    dsimp only [soughtS] at hsa
    have hB_ := (BC (BC (BC (BC (BC (BC (BC (BC (BC hB KS 0 (Nat.le_of_lt hwK) (.int .i64 0)) KS 1 (Nat.le_of_lt hwK) (.int .i64 32768)) KS 2 (Nat.le_of_lt hwK) (.int .i64 0)) KS 3 (Nat.le_of_lt hwK) (.int .i64 32768)) KS 4 (Nat.le_of_lt hwK) (.bool true)) KS 5 (Nat.le_of_lt hwK) (.int .i64 a)) KS 6 (Nat.le_of_lt hwK) (.int .i64 a)) KS 7 (Nat.le_of_lt hwK) (.int .i64 b)) KS 8 (Nat.le_of_lt hwK) (.int .i64 b))
    have hsl_ := (((((((((hsl.set ⟨KS, 0, none⟩ (.int .i64 0)).set ⟨KS, 1, none⟩ (.int .i64 32768)).set ⟨KS, 2, none⟩ (.int .i64 0)).set ⟨KS, 3, none⟩ (.int .i64 32768)).set ⟨KS, 4, none⟩ (.bool true)).set ⟨KS, 5, none⟩ (.int .i64 a)).set ⟨KS, 6, none⟩ (.int .i64 a)).set ⟨KS, 7, none⟩ (.int .i64 b)).set ⟨KS, 8, none⟩ (.int .i64 b))
    have hg_ : Y10.grownBy ((((((((((Y10.setCell ⟨KS, 0, none⟩ (.int .i64 0)).setCell ⟨KS, 1, none⟩ (.int .i64 32768)).setCell ⟨KS, 2, none⟩ (.int .i64 0)).setCell ⟨KS, 3, none⟩ (.int .i64 32768)).setCell ⟨KS, 4, none⟩ (.bool true)).setCell ⟨KS, 5, none⟩ (.int .i64 a)).setCell ⟨KS, 6, none⟩ (.int .i64 a)).setCell ⟨KS, 7, none⟩ (.int .i64 b)).setCell ⟨KS, 8, none⟩ (.int .i64 b))) (some KS) := (gT (gT (gT (gT (gT (gT (gT (gT (gC _ KS 0 _) (gC _ KS 1 _)) (gC _ KS 2 _)) (gC _ KS 3 _)) (gC _ KS 4 _)) (gC _ KS 5 _)) (gC _ KS 6 _)) (gC _ KS 7 _)) (gC _ KS 8 _))
    have hL_ := hL.same (hg_.block G hL.lt (fun e => by injection e with e; omega))
    have hTlt_ := Nat.lt_of_lt_of_le hTlt hg_.size
    have hm_ := hm0.below hB_ (Nat.le_refl _)
    clear hB hsl hL hTlt hm hg_ hk9 hklt
    generalize (((((((((Y10.setCell ⟨KS, 0, none⟩ (.int .i64 0)).setCell ⟨KS, 1, none⟩ (.int .i64 32768)).setCell ⟨KS, 2, none⟩ (.int .i64 0)).setCell ⟨KS, 3, none⟩ (.int .i64 32768)).setCell ⟨KS, 4, none⟩ (.bool true)).setCell ⟨KS, 5, none⟩ (.int .i64 a)).setCell ⟨KS, 6, none⟩ (.int .i64 a)).setCell ⟨KS, 7, none⟩ (.int .i64 b)).setCell ⟨KS, 8, none⟩ (.int .i64 b)) = XF at *
    have hB := hB_
    have hsl := hsl_
    have hL := hL_
    have hTlt := hTlt_
    have hm := hm_
    clear hB_ hsl_ hL_ hTlt_ hm_
    have hsa : StAt (soughtS a b) KS 0 XF := hsa
    obtain ⟨a0, a1, a2, a3, a4, a5, a6, a7, a8⟩ := id hsa
    simp only [Nat.zero_add, soughtS] at a0 a1 a2 a3 a4 a5 a6 a7 a8
    go_wp2_with fail
    clear a0 a1 a2 a3 a4 a5 a6 a7 a8
    refine (isSky_any a a XF).mono ?_
    rintro e X2 ⟨rfl, hx2⟩
    have hm_ := hm.below hx2 (Nat.le_refl _)
    clear hm
    have hm := hm_
    clear hm_
    have hsl_ := hsl.below hx2 hTlt
    clear hsl
    have hsl := hsl_
    clear hsl_
    have hTlt_ := Nat.lt_of_lt_of_le hTlt hx2.size
    clear hTlt
    have hTlt := hTlt_
    clear hTlt_
    have hB_ := BT hB hx2
    clear hB
    have hB := hB_
    clear hB_
    have hL_ := hL.grown hL.lt hx2
    clear hL
    have hL := hL_
    clear hL_
    have hsa_ := hsa.below hx2 hsa.lt
    clear hsa
    have hsa := hsa_
    clear hsa_
    clear hx2
    obtain ⟨a0, a1, a2, a3, a4, a5, a6, a7, a8⟩ := id hsa
    simp only [Nat.zero_add, soughtS] at a0 a1 a2 a3 a4 a5 a6 a7 a8
    cases hsk : skyB a a
    · go_wp2_with fail
      have hRe : R = .error 2 := by rw [← HR1.out, hsk]; rfl
      refine (insist_no 2 X2).mono ?_
      rintro e X ⟨rfl, hX⟩
      rw [hRe]
      exact ⟨rfl, rfl, BT hB hX⟩
    have HSA := Lib.hid hsk
    clear hsk
    go_wp2_with fail
    clear a0 a1 a2 a3 a4 a5 a6 a7 a8
    refine (isSky_any b b X2).mono ?_
    rintro e X3 ⟨rfl, hx3⟩
    have hm_ := hm.below hx3 (Nat.le_refl _)
    clear hm
    have hm := hm_
    clear hm_
    have hsl_ := hsl.below hx3 hTlt
    clear hsl
    have hsl := hsl_
    clear hsl_
    have hTlt_ := Nat.lt_of_lt_of_le hTlt hx3.size
    clear hTlt
    have hTlt := hTlt_
    clear hTlt_
    have hB_ := BT hB hx3
    clear hB
    have hB := hB_
    clear hB_
    have hL_ := hL.grown hL.lt hx3
    clear hL
    have hL := hL_
    clear hL_
    have hsa_ := hsa.below hx3 hsa.lt
    clear hsa
    have hsa := hsa_
    clear hsa_
    clear hx3
    cases hsk : skyB b b
    · go_wp2_with fail
      have hRe : R = .error 2 := by rw [← HR1.out, HSA.out, hsk]; rfl
      refine (insist_no 2 X3).mono ?_
      rintro e X ⟨rfl, hX⟩
      rw [hRe]
      exact ⟨rfl, rfl, BT hB hX⟩
    have HSB := Lib.hid hsk
    have HRi := Lib.hid HR1.out
    rw [HSA.out, HSB.out, if_pos (by rfl)] at HRi
    clear hsk HR1
    go_wp2_with fail
    refine (insist_yes 2 X3).mono ?_
    rintro e X4 ⟨rfl, hx4⟩
    have hm_ := hm.below hx4 (Nat.le_refl _)
    clear hm
    have hm := hm_
    clear hm_
    have hsl_ := hsl.below hx4 hTlt
    clear hsl
    have hsl := hsl_
    clear hsl_
    have hTlt_ := Nat.lt_of_lt_of_le hTlt hx4.size
    clear hTlt
    have hTlt := hTlt_
    clear hTlt_
    have hB_ := BT hB hx4
    clear hB
    have hB := hB_
    clear hB_
    have hL_ := hL.grown hL.lt hx4
    clear hL
    have hL := hL_
    clear hL_
    have hsa_ := hsa.below hx4 hsa.lt
    clear hsa
    have hsa := hsa_
    clear hsa_
    clear hx4
    obtain ⟨b0, b1, b2, b3, b4, b5, b6, b7, b8, b9, b10⟩ := id hL
    go_wp2_with fail
    clear b0 b1 b2 b3 b4 b5 b6 b7 b8 b9 b10
    unfold tellK at HRi
    by_cases ht : trA p ss = []
    · have hRe : R = .error 10 := by rw [← HRi.out, if_pos ht]
      refine (truths_no p ss X4 hm hok ht).mono ?_
      rintro e X ⟨rfl, hX⟩
      rw [hRe]
      exact ⟨rfl, rfl, BT hB hX⟩
    have HR2 := Lib.hid HRi.out
    rw [if_neg ht] at HR2
    clear HRi
    refine (truths_ok p ss X4 hm hok ht).mono ?_
    rintro e X5 ⟨mb, ⟨rfl, hO⟩, hmb, hx5⟩
    have hm_ := hm.below hx5 (Nat.le_refl _)
    clear hm
    have hm := hm_
    clear hm_
    have hsl_ := hsl.below hx5 hTlt
    clear hsl
    have hsl := hsl_
    clear hsl_
    have hTlt_ := Nat.lt_of_lt_of_le hTlt hx5.size
    clear hTlt
    have hTlt := hTlt_
    clear hTlt_
    have hB_ := BT hB hx5
    clear hB
    have hB := hB_
    clear hB_
    have hL_ := hL.grown hL.lt hx5
    clear hL
    have hL := hL_
    clear hL_
    have hsa_ := hsa.below hx5 hsa.lt
    clear hsa
    have hsa := hsa_
    clear hsa_
    clear hx5
    unfold truV sideV
    simp only [List.append_toArray, List.cons_append, List.nil_append]
    obtain ⟨XT, hXT⟩ : ∃ X, X5.alloc (.cells #[.int .i64 p.lo, .int .i64 p.hi, .slice p.a p.n p.cap, .func (.func 133) #[] #[], .int .i64 p.lo, .int .i64 p.hi, .slice p.a p.n p.cap, .func (.func 134) #[] #[], .map (some mb)] 74) = X := ⟨_, rfl⟩
    have hQ := boxT_new X5 p mb
    rw [hXT] at hQ
    have hxT : Below X5.heap.size X5 XT := by rw [← hXT]; exact newB _ _
    have hm_ := hm.below hxT (Nat.le_refl _)
    clear hm
    have hm := hm_
    clear hm_
    have hsl_ := hsl.below hxT hTlt
    clear hsl
    have hsl := hsl_
    clear hsl_
    have hTlt_ := Nat.lt_of_lt_of_le hTlt hxT.size
    clear hTlt
    have hTlt := hTlt_
    clear hTlt_
    have hB_ := BT hB hxT
    clear hB
    have hB := hB_
    clear hB_
    have hL_ := hL.grown hL.lt hxT
    clear hL
    have hL := hL_
    clear hL_
    have hsa_ := hsa.below hxT hsa.lt
    clear hsa
    have hsa := hsa_
    clear hsa_
    have hO_ := hO.kept (gB hxT none) (by simp)
    clear hO
    have hO := hO_
    clear hO_
    clear hxT
    obtain ⟨b0, b1, b2, b3, b4, b5, b6, b7, b8, b9, b10⟩ := id hL
    go_wp2_with fail
    clear hXT b0 b1 b2 b3 b4 b5 b6 b7 b8 b9 b10
    generalize X5.heap.size = H at *
    have hn12 : p.n ≤ 12 := by have := hok.n10; omega
    by_cases hkn : knownTo ss p.n = 0
    · have hRe : R = .error 12 := by rw [← HR2.out, if_pos hkn]
      refine (insistKnown_no p ss XT hm hn12 hkn).mono ?_
      rintro e X ⟨rfl, hX⟩
      rw [hRe]
      exact ⟨rfl, rfl, BT hB hX⟩
    have HR3 := Lib.hid HR2.out
    rw [if_neg hkn] at HR3
    clear HR2
    refine (insistKnown_ok p ss XT hm hn12 hkn).mono ?_
    rintro e X6 ⟨rfl, hx6⟩
    have hm_ := hm.below hx6 (Nat.le_refl _)
    clear hm
    have hm := hm_
    clear hm_
    have hsl_ := hsl.below hx6 hTlt
    clear hsl
    have hsl := hsl_
    clear hsl_
    have hTlt_ := Nat.lt_of_lt_of_le hTlt hx6.size
    clear hTlt
    have hTlt := hTlt_
    clear hTlt_
    have hB_ := BT hB hx6
    clear hB
    have hB := hB_
    clear hB_
    have hL_ := hL.grown hL.lt hx6
    clear hL
    have hL := hL_
    clear hL_
    have hsa_ := hsa.below hx6 hsa.lt
    clear hsa
    have hsa := hsa_
    clear hsa_
    have hO_ := hO.kept (gB hx6 none) (by simp)
    clear hO
    have hO := hO_
    clear hO_
    have hQ_ := And.intro (hQ.1.grown hx6) (cellB hQ.2 hx6)
    clear hQ
    have hQ := hQ_
    clear hQ_
    clear hx6
    have hks := Lib.hid (sought_rng HSA.out HSB.out)
    obtain ⟨⟨t0, t1, t2, t3, t4, t5, t6, t7⟩, t8⟩ := id hQ
    go_wp2_with fail
    clear t0 t1 t2 t3 t4 t5 t6 t7 t8
    have hA := along_any p mb (trA p ss).length (trA p ss) (trL_apart p ss _) 64 #[.pointer (some ⟨KS, 0, none⟩)] (fun d x => fiS x.sc (x.lo d) (x.hi d) (soughtS a b) d) X6 (enters_of Tryz.func64 (by kernel_rfl) rfl) hO (fun d x hx Y hY => by have hs := trL_ok hok hx; exact findC_any d x.sc (x.lo d) (x.hi d) p (soughtS a b) KS Y hs.s0 hs.s1 (hs.lo d) (hs.hi d) (hks.out d).1 (hks.out d).2 (hsa.below hY hsa.lt))
    have HR9 : Hid (alongR (kepL ((fun d x => fiS x.sc (x.lo d) (x.hi d) (soughtS a b) d) false) (trA p ss)) (kepL ((fun d x => fiS x.sc (x.lo d) (x.hi d) (soughtS a b) d) true) (trA p ss)) = R) := HR3.out
    obtain ⟨r, hr⟩ : ∃ r, alongR (kepL ((fun d x => fiS x.sc (x.lo d) (x.hi d) (soughtS a b) d) false) (trA p ss)) (kepL ((fun d x => fiS x.sc (x.lo d) (x.hi d) (soughtS a b) d) true) (trA p ss)) = r := ⟨_, rfl⟩
    have hfour := along_four (kepL ((fun d x => fiS x.sc (x.lo d) (x.hi d) (soughtS a b) d) false) (trA p ss)) (kepL ((fun d x => fiS x.sc (x.lo d) (x.hi d) (soughtS a b) d) true) (trA p ss))
    rw [hr] at hA hfour
    have hRr : R = r := by rw [← HR9.out, hr]
    have HRr := Lib.hid hRr
    clear hRr hr HR9
    unfold truV sideV at hA
    simp only [List.append_toArray, List.cons_append, List.nil_append] at hA
    cases r with
    | error c =>
      refine hA.mono ?_
      rintro e X ⟨rfl, hX⟩
      rw [HRr.out]
      exact ⟨rfl, rfl, BT hB hX⟩
    | ok v =>
      obtain ⟨va, vb, vc, vd, rfl⟩ := hfour v rfl
      refine hA.mono ?_
      rintro e X ⟨rfl, hX⟩
      have hsl9 := hsl.below hX hTlt
      have hB9 := BT hB hX
      obtain ⟨x0, q0, z0⟩ := hsl9.get 0 (by omega)
      obtain ⟨x1, q1, z1⟩ := hsl9.get 1 (by omega)
      obtain ⟨x2, q2, z2⟩ := hsl9.get 2 (by omega)
      obtain ⟨x3, q3, z3⟩ := hsl9.get 3 (by omega)
      have hfin := (BC (BC (BC (BC hB9 (w.heap.size) 0 (by omega) (.int .i64 va)) (w.heap.size) 1 (by omega) (.int .i64 vb)) (w.heap.size) 2 (by omega) (.int .i64 vc)) (w.heap.size) 3 (by omega) (.int .i64 vd))
      clear hX hsl9 hB9 hA
      go_wp2_with fail
      rw [HRr.out]
      exact bodyPost_ret (v := .agg #[.int .i64 va, .int .i64 vb, .int .i64 vc, .int .i64 vd]) (by simp [results, Tryz.results60, go_sem, q0, q1, q2, q3]) rfl ⟨rfl, hfin⟩
end Go.Proofs.YtdkegkacpdkjgaaGreat
