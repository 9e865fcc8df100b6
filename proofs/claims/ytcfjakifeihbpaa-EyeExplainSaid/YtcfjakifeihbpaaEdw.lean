/- Eye: the walk of EyeDiffer. -/
import Derived.Test.YtcfjakifeihbpaaEpw
import Derived.Test.YtcfjakifeihbpaaEdf
namespace Go.Proofs.Ytcfjakifeihbpaa
namespace Ey
open Go.RowKit

theorem tmod_rng {a n : Int} (ha : 0 ≤ a) (hn : 0 < n) : 0 ≤ a.tmod n ∧ a.tmod n < n := by
  rw [Int.tmod_eq_emod_of_nonneg ha]
  exact ⟨Int.emod_nonneg _ (by omega), Int.emod_lt_of_pos _ hn⟩
theorem wrap_tmod {a n : Int} (ha : 0 ≤ a) (ha1 : a ≤ 255) (hn : 0 < n) : IntKind.i64.wrap (a.tmod n) = a.tmod n := by
  have h : a % n ≤ a := by rw [Int.emod_def]; have : 0 ≤ a / n := Int.ediv_nonneg ha (by omega); have : 0 ≤ n * (a / n) := Int.mul_nonneg (by omega) this; omega
  have h2 := tmod_rng ha hn
  rw [Int.tmod_eq_emod_of_nonneg ha] at h2 ⊢
  exact IntWalk.i64_in _ (by omega)
theorem and_one {v : Int} (h : 0 ≤ v ∧ v < 16) : bits .and .i64 v 1 = v % 2 := by
  have := (by decide +kernel : ∀ n : Fin 16, bits .and .i64 (n.val : Int) 1 = (n.val : Int) % 2) ⟨v.toNat, by omega⟩
  dsimp only at this
  rw [show ((v.toNat : Nat) : Int) = v by omega] at this
  exact this
theorem inside_any (lo hi : Int) (w : World) : Calls Try.prog 31 #[.agg #[.int .i64 lo, .int .i64 hi], .int .i64 0] w (Ret (.bool (inB0 lo hi)) w) := by
  have hX := newB w (.cells #[.int .i64 lo, .int .i64 hi] 24)
  by_cases h1 : lo ≤ 0
  · have he : Hid (inB0 lo hi = decide (0 ≤ hi)) := by show _ = _; unfold inB0; rw [decide_eq_true h1]; rfl
    by_cases h2 : 0 ≤ hi
    all_goals
      go_enter Try.func31, Try.ntmps31
      go_wp2
      go_ret
      exact ⟨by rw [he.out]; simp [h2], hX⟩
  · have he : Hid (inB0 lo hi = false) := by show _ = _; unfold inB0; rw [decide_eq_false h1]; rfl
    go_enter Try.func31, Try.ntmps31
    go_wp2
    go_ret
    exact ⟨by rw [he.out]; rfl, hX⟩
theorem pow_eyes {n : Int} (h : n ≤ 4) : (2 : Int) ^ n.toNat ≤ 16 := by
  have := (by decide : ∀ k : Fin 5, (2 : Int) ^ k.val ≤ 16) ⟨n.toNat, by omega⟩
  exact this
set_option maxRecDepth 100000 in
set_option maxHeartbeats 16000000 in
theorem differ_walk (h : Wd) (xs : List (Int × Int)) (ls : List LkV) (a b cc : Int) (w : World) (hm : HasW w h xs ls) (ha : 0 ≤ a ∧ a ≤ 255) (hb : 0 ≤ b ∧ b ≤ 255) (hcc : 0 ≤ cc ∧ cc ≤ 255) :
    Calls Try.prog 6 #[h.val, .int .u8 a, .int .u8 b, .int .u8 cc] w (Ret (.bool true) w) := by
  have hX := newB w (.cells #[.slice h.a h.n h.cap, .int .i64 h.eLo, .int .i64 h.eHi, .int .i64 h.images, .int .i64 h.eyes, .int .i64 h.hLo, .int .i64 h.hHi, .slice h.la h.ln h.lcap] 29)
  obtain ⟨c0, c1, c2, c3, c4, c5, c6, c7⟩ := boxW_new w h 29
  have HB : Hid (BoxA _ _ h xs ls) := (⟨⟨c0, c1, c2, c3, c4, c5, c6, c7⟩, hm.below hX⟩ : BoxA _ _ h xs ls)
  have hfar : Hid (∀ Y, Below w.heap.size w Y → Calls Try.prog 12 #[h.val, .int .i64 12] Y (Ret (.bool (farB h xs ls 12)) Y)) := fun Y hY => far_any h xs ls 12 Y (hm.below hY)
  have hwat : Hid (∀ Y, Below w.heap.size w Y → farB h xs ls 12 = false → Calls Try.prog 33 #[h.val] Y (Ret (.bool (validW h xs ls)) Y)) := fun Y hY hf => watchR_any h xs ls Y (hm.below hY) (farB_le hf).2 (farB_le hf).1
  have hha : Hid (∀ (i : Int) Y, Below w.heap.size w Y → Calls Try.prog 14 #[h.val, .int .i64 i] Y (Ret (reply (habitR h xs ls i)) Y)) := fun i Y hY => habit_any i h xs ls Y (hm.below hY)
  have hbe : Hid (∀ (i k : Int) Y, Below w.heap.size w Y → Calls Try.prog 16 #[h.val, .int .i64 i, .int .i64 k] Y (Ret (reply (betweenR h xs ls i k)) Y)) := fun i k Y hY => between_any i k h xs ls Y (hm.below hY)
  have hsu : Hid (∀ Y, Below w.heap.size w Y → Calls Try.prog 20 #[h.val] Y (Ret (replyI (sureA h xs ls)) Y)) := fun Y hY => sure_any h xs ls Y (hm.below hY)
  have hnl := Lib.hid hm.nl
  obtain ⟨ha0, ha1⟩ := ha
  obtain ⟨hb0, hb1⟩ := hb
  obtain ⟨hc0, hc1⟩ := hcc
  clear hm
  unfold Wd.val at hfar hwat hha hbe hsu ⊢
  go_enter Try.func6, Try.ntmps6
  go_wp2_with fail
  refine (hfar.out _ hX).mono ?_
  rintro e w1 ⟨rfl, hx1⟩
  cases hf : farB h xs ls 12 with
  | true =>
    have hB := BT hX hx1
    go_wp2_with fail
    refine (awake_any _).mono ?_
    rintro e w2 ⟨rfl, hb2⟩
    have hB2 := BT hB hb2
    go_wp2
    go_ret
    exact ⟨rfl, hB2⟩
  | false =>
  have hB := BT hX hx1
  have HB := Lib.hid (HB.out.grown hx1)
  clear c0 c1 c2 c3 c4 c5 c6 c7 hfar hX hx1
  obtain ⟨⟨c0, c1, c2, c3, c4, c5, c6, c7⟩, hh⟩ := HB.out
  clear hh
  go_wp2_with fail
  refine (hwat.out _ hB hf).mono ?_
  rintro e w2 ⟨rfl, hx2⟩
  have hB2 := BT hB hx2
  have HB := Lib.hid (HB.out.grown hx2)
  clear c0 c1 c2 c3 c4 c5 c6 c7 hx2 hwat hB
  cases hv : validW h xs ls with
  | false =>
    go_wp2_with fail
    refine (awake_any _).mono ?_
    rintro e w3 ⟨rfl, hb3⟩
    have hB3 := BT hB2 hb3
    go_wp2
    go_ret
    exact ⟨rfl, hB3⟩
  | true =>
  have HVW := validW_iff hv
  have hE0 : ¬ h.eyes = 0 := by have := HVW.ey; omega
  have hE4 : h.eyes ≤ 4 := by have := HVW.ey; omega
  have hE1 : (0 : Int) < h.eyes := by have := HVW.ey; omega
  have hi := tmod_rng ha0 hE1
  have hk := tmod_rng hb0 hE1
  have hm := tmod_rng hc0 hE1
  have HF : Hid (∃ c x1 x2 y1 y2 s1 s2 t1 t2 u1 u2 v1 v2 sure, DF h xs ls (a.tmod h.eyes) (b.tmod h.eyes) (cc.tmod h.eyes) c x1 x2 y1 y2 s1 s2 t1 t2 u1 u2 v1 v2 sure) := differ_facts hv hnl.out hi hk hm
  have hr1 := wrap_tmod ha0 ha1 hE1
  have hr2 := wrap_tmod hb0 hb1 hE1
  have hr3 := wrap_tmod hc0 hc1 hE1
  have hw1 : IntKind.i64.wrap a = a := IntWalk.i64_in _ (by omega)
  have hw2 : IntKind.i64.wrap b = b := IntWalk.i64_in _ (by omega)
  have hw3 : IntKind.i64.wrap cc = cc := IntWalk.i64_in _ (by omega)
  clear hv hf HVW
  have hdr : Below w2.heap.size w2 w2.drew := Below.drew (Below.refl _ _)
  have hB3 := BT hB2 hdr
  have HB := Lib.hid (HB.out.grown hdr)
  obtain ⟨⟨c0, c1, c2, c3, c4, c5, c6, c7⟩, hh⟩ := HB.out
  clear hh hdr hB2
  go_wp2_with fail
  refine wp_region_seq [(0, true), (1, true), (2, true), (3, true), (4, true), (5, true), (6, true), (7, true), (8, true), (9, true), (10, true), (11, true), (12, true), (13, true), (14, true), (15, true), (16, true), (17, true)]
    (fun w' => w'.cell? ⟨w.heap.size, 4, none⟩ = some (.int .i64 h.eyes)) (by kernel_rfl) (by kernel_rfl) (fun _ _ d _ _ h => by cases d <;> exact h) c4 ?_
  generalize w2.drew = W3 at *
  repeat (first | (refine seq_read rfl (by rfl) _ (fun w' hS => by (try dsimp only at hS); go_simp; (try with_reducible rfl)) ?_; (try simp only [Act.put, List.setIfInBounds_toArray, List.set_cons_zero, List.set_cons_succ])) | (refine seq_skip rfl (by rfl) ?_; (try simp only [Act.put, List.setIfInBounds_toArray, List.set_cons_zero, List.set_cons_succ])))
  apply seq_end
  first | show Exit.inBlock _ _ Exit.normal _ _ | show Exit.then _ _ Exit.normal _ _
  generalize a.tmod h.eyes = i at *
  generalize b.tmod h.eyes = k at *
  generalize cc.tmod h.eyes = m at *
  obtain ⟨c, x1, x2, y1, y2, s1, s2, t1, t2, u1, u2, v1, v2, sure, df⟩ := HF.out
  have DF' := Lib.hid df
  have hBc : Below W3.heap.size W3 W3 := Below.refl _ _
  clear df HF hr1 hr2 hr3 hw1 hw2 hw3 hm c0 c1 c2 c3 c4 c5 c6 c7
  obtain ⟨⟨c0, c1, c2, c3, c4, c5, c6, c7⟩, hh⟩ := HB.out.grown hBc
  clear hh
  go_wp2_with fail
  refine (hha.out _ _ (BT hB3 hBc)).mono ?_
  rw [DF'.out.x]
  rintro e z0 ⟨rfl, hz⟩
  have hN := newB z0 (.cells #[.int .i64 x1, .int .i64 x2] 24)
  have x0 := (two_newT z0 x1 x2 24).1
  have x1' := (two_newT z0 x1 x2 24).2
  have hBc := BT (BT hBc hz) hN
  clear hz hN c0 c1 c2 c3 c4 c5 c6 c7
  go_upto_region 5 with fail
  generalize z0.alloc (.cells #[.int .i64 x1, .int .i64 x2] 24) = Z0 at *
  generalize z0.heap.size = Px at *
  obtain ⟨⟨c0, c1, c2, c3, c4, c5, c6, c7⟩, hh⟩ := HB.out.grown hBc
  clear hh
  go_wp2_with fail
  refine (hha.out _ _ (BT hB3 hBc)).mono ?_
  rw [DF'.out.y]
  rintro e z1 ⟨rfl, hz⟩
  have hN := newB z1 (.cells #[.int .i64 y1, .int .i64 y2] 24)
  have y0 := (two_newT z1 y1 y2 24).1
  have y1' := (two_newT z1 y1 y2 24).2
  have hBc := BT (BT hBc hz) hN
  have x0 := cellB (cellB x0 hz) hN
  have x1' := cellB (cellB x1' hz) hN
  clear hz hN c0 c1 c2 c3 c4 c5 c6 c7
  go_upto_region 6 with fail
  generalize z1.alloc (.cells #[.int .i64 y1, .int .i64 y2] 24) = Z1 at *
  generalize z1.heap.size = Py at *
  obtain ⟨⟨c0, c1, c2, c3, c4, c5, c6, c7⟩, hh⟩ := HB.out.grown hBc
  clear hh
  go_wp2_with fail
  refine (hbe.out _ _ _ (BT hB3 hBc)).mono ?_
  rw [DF'.out.s]
  rintro e z2 ⟨rfl, hz⟩
  have hN := newB z2 (.cells #[.int .i64 s1, .int .i64 s2] 24)
  have s0 := (two_newT z2 s1 s2 24).1
  have s1' := (two_newT z2 s1 s2 24).2
  have hBc := BT (BT hBc hz) hN
  have x0 := cellB (cellB x0 hz) hN
  have x1' := cellB (cellB x1' hz) hN
  have y0 := cellB (cellB y0 hz) hN
  have y1' := cellB (cellB y1' hz) hN
  clear hz hN c0 c1 c2 c3 c4 c5 c6 c7
  go_upto_region 7 with fail
  generalize z2.alloc (.cells #[.int .i64 s1, .int .i64 s2] 24) = Z2 at *
  generalize z2.heap.size = Ps at *
  obtain ⟨⟨c0, c1, c2, c3, c4, c5, c6, c7⟩, hh⟩ := HB.out.grown hBc
  clear hh
  go_wp2_with fail
  refine (hbe.out _ _ _ (BT hB3 hBc)).mono ?_
  rw [DF'.out.t]
  rintro e z3 ⟨rfl, hz⟩
  have hN := newB z3 (.cells #[.int .i64 t1, .int .i64 t2] 24)
  have t0 := (two_newT z3 t1 t2 24).1
  have t1' := (two_newT z3 t1 t2 24).2
  have hBc := BT (BT hBc hz) hN
  have x0 := cellB (cellB x0 hz) hN
  have x1' := cellB (cellB x1' hz) hN
  have y0 := cellB (cellB y0 hz) hN
  have y1' := cellB (cellB y1' hz) hN
  have s0 := cellB (cellB s0 hz) hN
  have s1' := cellB (cellB s1' hz) hN
  clear hz hN c0 c1 c2 c3 c4 c5 c6 c7
  go_upto_region 8 with fail
  generalize z3.alloc (.cells #[.int .i64 t1, .int .i64 t2] 24) = Z3 at *
  generalize z3.heap.size = Pt at *
  obtain ⟨⟨c0, c1, c2, c3, c4, c5, c6, c7⟩, hh⟩ := HB.out.grown hBc
  clear hh
  go_wp2_with fail
  refine (hbe.out _ _ _ (BT hB3 hBc)).mono ?_
  rw [DF'.out.u]
  rintro e z4 ⟨rfl, hz⟩
  have hN := newB z4 (.cells #[.int .i64 u1, .int .i64 u2] 24)
  have u0 := (two_newT z4 u1 u2 24).1
  have u1' := (two_newT z4 u1 u2 24).2
  have hBc := BT (BT hBc hz) hN
  have x0 := cellB (cellB x0 hz) hN
  have x1' := cellB (cellB x1' hz) hN
  have y0 := cellB (cellB y0 hz) hN
  have y1' := cellB (cellB y1' hz) hN
  have s0 := cellB (cellB s0 hz) hN
  have s1' := cellB (cellB s1' hz) hN
  have t0 := cellB (cellB t0 hz) hN
  have t1' := cellB (cellB t1' hz) hN
  clear hz hN c0 c1 c2 c3 c4 c5 c6 c7
  go_upto_region 9 with fail
  generalize z4.alloc (.cells #[.int .i64 u1, .int .i64 u2] 24) = Z4 at *
  generalize z4.heap.size = Pu at *
  obtain ⟨⟨c0, c1, c2, c3, c4, c5, c6, c7⟩, hh⟩ := HB.out.grown hBc
  clear hh
  go_wp2_with fail
  refine (hbe.out _ _ _ (BT hB3 hBc)).mono ?_
  rw [DF'.out.v]
  rintro e z5 ⟨rfl, hz⟩
  have hN := newB z5 (.cells #[.int .i64 v1, .int .i64 v2] 24)
  have v0 := (two_newT z5 v1 v2 24).1
  have v1' := (two_newT z5 v1 v2 24).2
  have hBc := BT (BT hBc hz) hN
  have x0 := cellB (cellB x0 hz) hN
  have x1' := cellB (cellB x1' hz) hN
  have y0 := cellB (cellB y0 hz) hN
  have y1' := cellB (cellB y1' hz) hN
  have s0 := cellB (cellB s0 hz) hN
  have s1' := cellB (cellB s1' hz) hN
  have t0 := cellB (cellB t0 hz) hN
  have t1' := cellB (cellB t1' hz) hN
  have u0 := cellB (cellB u0 hz) hN
  have u1' := cellB (cellB u1' hz) hN
  clear hz hN c0 c1 c2 c3 c4 c5 c6 c7
  go_upto_region 10 with fail
  generalize z5.alloc (.cells #[.int .i64 v1, .int .i64 v2] 24) = Z5 at *
  generalize z5.heap.size = Pv at *
  obtain ⟨⟨c0, c1, c2, c3, c4, c5, c6, c7⟩, hh⟩ := HB.out.grown hBc
  clear hh
  go_wp2_with fail
  refine (hsu.out _ (BT hB3 hBc)).mono ?_
  rw [DF'.out.sr]
  rintro e z6 ⟨rfl, hz⟩
  have hBc := BT hBc hz
  have x0 := cellB x0 hz
  have x1' := cellB x1' hz
  have y0 := cellB y0 hz
  have y1' := cellB y1' hz
  have s0 := cellB s0 hz
  have s1' := cellB s1' hz
  have t0 := cellB t0 hz
  have t1' := cellB t1' hz
  have u0 := cellB u0 hz
  have u1' := cellB u1' hz
  have v0 := cellB v0 hz
  have v1' := cellB v1' hz
  clear hz c0 c1 c2 c3 c4 c5 c6 c7
  go_upto_region 11 with fail
  have hN := newB z6 (.cells #[.int .i64 c, .int .i64 c, .int .i64 c, .int .i64 c, .int .i64 c, .int .i64 c] 32)
  have hq : ∀ j : Nat, j < 6 → (z6.alloc (.cells #[.int .i64 c, .int .i64 c, .int .i64 c, .int .i64 c, .int .i64 c, .int .i64 c] 32)).cell? ⟨z6.heap.size, j, none⟩ = some (.int .i64 c) := by
    intro j hj
    have : j = 0 ∨ j = 1 ∨ j = 2 ∨ j = 3 ∨ j = 4 ∨ j = 5 := by omega
    rcases this with rfl | rfl | rfl | rfl | rfl | rfl <;> simp [go_sem]
  have hBc := BT hBc hN
  have x0 := cellB x0 hN
  have x1' := cellB x1' hN
  have y0 := cellB y0 hN
  have y1' := cellB y1' hN
  have s0 := cellB s0 hN
  have s1' := cellB s1' hN
  have t0 := cellB t0 hN
  have t1' := cellB t1' hN
  have u0 := cellB u0 hN
  have u1' := cellB u1' hN
  have v0 := cellB v0 hN
  have v1' := cellB v1' hN
  clear hN
  go_upto_region 12 with fail
  generalize z6.alloc (.cells #[.int .i64 c, .int .i64 c, .int .i64 c, .int .i64 c, .int .i64 c, .int .i64 c] 32) = Z6 at *
  generalize z6.heap.size = bq at *
  have hci : c = 0 ∨ c = 10 := by rcases DF'.out.cs with h0 | h0 <;> omega
  go_loopw [104] (fun p wr => ∃ j : Nat, j ≤ 6 ∧ p = .int .i64 j ∧ Below Z6.heap.size Z6 wr) (fun p _ => 6 - (intOf p).toNat)
  case atStart => exact ⟨0, by omega, rfl, Below.refl _ _⟩
  case round =>
    obtain ⟨j, hj, rfl, hBx⟩ := hrel
    by_cases hlt : j < 6
    · have hlt' : (j : Int) < 6 := by omega
      have hj0 : (0 : Int) ≤ (j : Int) := by omega
      have hqj := cellB (hq j hlt) hBx
      go_wp2_with fail
      go_roundw
      case rel => exact ⟨j + 1, by omega, by go_num, hBx⟩
      case measure => simp [intOf]; omega
    · obtain rfl : j = 6 := by omega
      have hBc := BT hBc hBx
      have x0 := cellB x0 hBx
      have x1' := cellB x1' hBx
      have y0 := cellB y0 hBx
      have y1' := cellB y1' hBx
      have s0 := cellB s0 hBx
      have s1' := cellB s1' hBx
      have t0 := cellB t0 hBx
      have t1' := cellB t1' hBx
      have u0 := cellB u0 hBx
      have u1' := cellB u1' hBx
      have v0 := cellB v0 hBx
      have v1' := cellB v1' hBx
      have hBw := BT hB3 hBc
      clear hq hBx
      rcases DF'.out.cs with ⟨hc, e1, e2, e3, e4, e5⟩ | ⟨hc, ⟨f1, f2, f3, f4, f5, f6, f7⟩, ⟨g1, g2, g3, g4⟩, k1, k2, k3⟩
      · subst hc e1 e2 e3 e4 e5
        go_wp2_with fail
        refine (awake_any _).mono ?_
        rintro e z9 ⟨rfl, hz9⟩
        have hB9 := BT hBw hz9
        go_wp2
        go_ret
        exact ⟨rfl, hB9⟩
      · subst hc
        obtain ⟨⟨⟨bx0, bx1⟩, ⟨bx2, bx3⟩, ⟨by0, by1⟩, by2, by3⟩, ⟨bs0, bs1⟩, ⟨bs2, bs3⟩, ⟨bu0, bu1⟩, ⟨bu2, bu3⟩, ⟨bv0, bv1⟩, bv2, bv3⟩ := DF'.out.b
        have n1 : ¬ x1 > x2 := by omega
        have n2 : ¬ x1 < h.hLo := by omega
        have n3 : ¬ x2 > h.hHi := by omega
        have n4 : ¬ s1 > s2 := by omega
        have n5 : ¬ s1 < y1 - x2 := by omega
        have n6 : ¬ s2 > y2 - x1 := by omega
        have n7 : ¬ s1 < u1 + v1 := by omega
        have n8 : ¬ s2 > u2 + v2 := by omega
        have m1 : decide (x2 < x1) = false := decide_eq_false n1
        have m2 : decide (x1 < h.hLo) = false := decide_eq_false n2
        have m3 : decide (h.hHi < x2) = false := decide_eq_false n3
        have m4 : decide (s2 < s1) = false := decide_eq_false n4
        have w1 : IntKind.i64.wrap (-s2) = -s2 := IntWalk.i64_in _ (by omega)
        have w2 : IntKind.i64.wrap (-s1) = -s1 := IntWalk.i64_in _ (by omega)
        clear g1 g2 g3 g4 f1 f2 f3 f4 hci DF'
        subst f5
        subst f6
        go_upto_region 19 with fail
        by_cases hik : i = k
        · obtain ⟨z1, z2⟩ := f7 hik
          subst hik
          subst z1
          subst z2
          clear f7
          simp only [Int.neg_zero] at *
          have hdr : Below wr.heap.size wr wr.drew := Below.drew (Below.refl _ _)
          have hBc := BT hBc hdr
          have hBw := BT hBw hdr
          have x0 := cellB x0 hdr
          have x1' := cellB x1' hdr
          have y0 := cellB y0 hdr
          have y1' := cellB y1' hdr
          have s0 := cellB s0 hdr
          have s1' := cellB s1' hdr
          have t0 := cellB t0 hdr
          have t1' := cellB t1' hdr
          have u0 := cellB u0 hdr
          have u1' := cellB u1' hdr
          have v0 := cellB v0 hdr
          have v1' := cellB v1' hdr
          have HBc := Lib.hid (HB.out.grown hBc)
          obtain ⟨⟨c0, c1, c2, c3, c4, c5, c6, c7⟩, hh⟩ := HBc.out
          clear hh c0 c1 c2 c3 c7 hdr
          go_wp2_with fail
          refine wp_region_seq [(0, true), (1, true), (2, true), (3, true), (4, true), (5, true), (6, true), (7, true), (8, true), (9, true), (10, true), (11, true), (12, true), (13, true), (14, true), (15, true), (16, true), (17, true), (18, true), (19, true), (20, true), (21, true), (22, true), (23, true), (24, true), (25, true), (26, true), (27, true), (28, true), (29, true), (30, true), (31, true), (32, true), (33, true), (34, true), (35, true), (36, false), (37, true), (38, true), (39, true), (40, true), (41, true), (42, true), (43, true), (44, true), (45, false), (46, true), (47, true), (48, true)]
            (fun w' => w'.cell? ⟨w.heap.size, 5, none⟩ = some (.int .i64 h.hLo) ∧ w'.cell? ⟨w.heap.size, 6, none⟩ = some (.int .i64 h.hHi) ∧ w'.cell? ⟨Px, 0, none⟩ = some (.int .i64 x1) ∧ w'.cell? ⟨Px, 1, none⟩ = some (.int .i64 x2) ∧ w'.cell? ⟨Ps, 0, none⟩ = some (.int .i64 0) ∧ w'.cell? ⟨Ps, 1, none⟩ = some (.int .i64 0) ∧ w'.cell? ⟨Pt, 0, none⟩ = some (.int .i64 0) ∧ w'.cell? ⟨Pt, 1, none⟩ = some (.int .i64 0)) (by kernel_rfl) (by kernel_rfl) (fun _ _ d _ _ h => by cases d <;> exact h) ⟨c5, c6, x0, x1', s0, s1', t0, t1'⟩ ?_
          generalize wr.drew = Y0 at *
          repeat (first | (refine seq_read rfl (by rfl) _ (fun w' hS => by (try dsimp only at hS); go_simp; (try with_reducible rfl)) ?_; (try simp only [Act.put, List.setIfInBounds_toArray, List.set_cons_zero, List.set_cons_succ])) | (refine seq_skip rfl (by rfl) ?_; (try simp only [Act.put, List.setIfInBounds_toArray, List.set_cons_zero, List.set_cons_succ])))
          refine seq_do rfl (by rfl) (fun K hK => ?_)
          go_simp
          refine (spanL_any _ _ _).mono ?_
          rintro e Y1 ⟨rfl, hY⟩
          have c5 := cellB c5 hY
          have c6 := cellB c6 hY
          have c4 := cellB c4 hY
          have x0 := cellB x0 hY
          have x1' := cellB x1' hY
          have y0 := cellB y0 hY
          have y1' := cellB y1' hY
          have s0 := cellB s0 hY
          have s1' := cellB s1' hY
          have t0 := cellB t0 hY
          have t1' := cellB t1' hY
          have u0 := cellB u0 hY
          have u1' := cellB u1' hY
          have v0 := cellB v0 hY
          have v1' := cellB v1' hY
          have hBw := BT hBw hY
          refine hK _ _ ⟨c5, c6, x0, x1', s0, s1', t0, t1'⟩ ?_
          clear hK K hY
          (try simp only [Act.put, List.setIfInBounds_toArray, List.set_cons_zero, List.set_cons_succ])
          repeat (first | (refine seq_read rfl (by rfl) _ (fun w' hS => by (try dsimp only at hS); go_simp; (try with_reducible rfl)) ?_; (try simp only [Act.put, List.setIfInBounds_toArray, List.set_cons_zero, List.set_cons_succ])) | (refine seq_skip rfl (by rfl) ?_; (try simp only [Act.put, List.setIfInBounds_toArray, List.set_cons_zero, List.set_cons_succ])))
          refine seq_do rfl (by rfl) (fun K hK => ?_)
          go_simp
          refine (spanL_any _ _ _).mono ?_
          rintro e Y2 ⟨rfl, hY⟩
          have c5 := cellB c5 hY
          have c6 := cellB c6 hY
          have c4 := cellB c4 hY
          have x0 := cellB x0 hY
          have x1' := cellB x1' hY
          have y0 := cellB y0 hY
          have y1' := cellB y1' hY
          have s0 := cellB s0 hY
          have s1' := cellB s1' hY
          have t0 := cellB t0 hY
          have t1' := cellB t1' hY
          have u0 := cellB u0 hY
          have u1' := cellB u1' hY
          have v0 := cellB v0 hY
          have v1' := cellB v1' hY
          have hBw := BT hBw hY
          refine hK _ _ ⟨c5, c6, x0, x1', s0, s1', t0, t1'⟩ ?_
          clear hK K hY
          (try simp only [Act.put, List.setIfInBounds_toArray, List.set_cons_zero, List.set_cons_succ])
          repeat (first | (refine seq_read rfl (by rfl) _ (fun w' hS => by (try dsimp only at hS); go_simp; (try with_reducible rfl)) ?_; (try simp only [Act.put, List.setIfInBounds_toArray, List.set_cons_zero, List.set_cons_succ])) | (refine seq_skip rfl (by rfl) ?_; (try simp only [Act.put, List.setIfInBounds_toArray, List.set_cons_zero, List.set_cons_succ])))
          refine seq_end ?_
          go_upto_region 23 with fail
          have hdr : Below Y2.heap.size Y2 Y2.drew := Below.drew (Below.refl _ _)
          have c4 := cellB c4 hdr
          have x0 := cellB x0 hdr
          have x1' := cellB x1' hdr
          have hBw := BT hBw hdr
          clear c5 c6 y0 y1' s0 s1' t0 t1' u0 u1' v0 v1'
          have e1 : sure / 2 ^ h.eyes.toNat = 0 := Int.ediv_eq_zero_of_lt k1 k2
          have q1 : (sure / 2 ^ h.eyes.toNat == 0) = true := by rw [e1]; rfl
          have hsv : 0 ≤ sure / 2 ^ i.toNat ∧ sure / 2 ^ i.toNat < 16 := by
            have h1 := pow_eyes hE4
            have h2 : (0 : Int) < 2 ^ i.toNat := Int.pow_pos (by decide)
            exact ⟨Int.ediv_nonneg k1 (by omega), Int.lt_of_le_of_lt (Int.ediv_le_self _ k1) (by omega)⟩
          have hand := and_one hsv
          rw [k3] at hand
          have hi0 := hi.1
          clear k3 hsv k2 e1
          cases hin : inB0 x1 x2
          all_goals
            rw [hin] at hand
            simp only [Bool.false_eq_true, if_false, if_true] at hand
            go_wp2_with fail
            refine wp_region_seq [(0, true), (1, true), (2, true), (3, true), (4, true), (5, true), (6, true), (7, true), (8, true), (9, true), (10, true), (11, true), (12, true), (13, true), (14, true), (15, true), (16, false), (17, true), (18, true), (19, true), (20, true), (21, false), (22, true), (23, true)]
              (fun w' => w'.cell? ⟨w.heap.size, 4, none⟩ = some (.int .i64 h.eyes) ∧ w'.cell? ⟨Px, 0, none⟩ = some (.int .i64 x1) ∧ w'.cell? ⟨Px, 1, none⟩ = some (.int .i64 x2)) (by kernel_rfl) (by kernel_rfl) (fun _ _ d _ _ h => by cases d <;> exact h) ⟨c4, x0, x1'⟩ ?_
            generalize Y2.drew = Q0 at *
            repeat (first | (refine seq_read rfl (by rfl) _ (fun w' hS => by (try dsimp only at hS); go_simp; (try with_reducible rfl)) ?_; (try simp only [Act.put, List.setIfInBounds_toArray, List.set_cons_zero, List.set_cons_succ])) | (refine seq_skip rfl (by rfl) ?_; (try simp only [Act.put, List.setIfInBounds_toArray, List.set_cons_zero, List.set_cons_succ])))
            refine seq_do rfl (by rfl) (fun K hK => ?_)
            go_simp
            refine (inside_any _ _ _).mono ?_
            rw [hin]
            rintro e Q1 ⟨rfl, hY⟩
            have c4 := cellB c4 hY
            have x0 := cellB x0 hY
            have x1' := cellB x1' hY
            have hBw := BT hBw hY
            refine hK _ _ ⟨c4, x0, x1'⟩ ?_
            clear hK K hY
            (try simp only [Act.put, List.setIfInBounds_toArray, List.set_cons_zero, List.set_cons_succ])
            repeat (first | (refine seq_read rfl (by rfl) _ (fun w' hS => by (try dsimp only at hS); go_simp; (try with_reducible rfl)) ?_; (try simp only [Act.put, List.setIfInBounds_toArray, List.set_cons_zero, List.set_cons_succ])) | (refine seq_skip rfl (by rfl) ?_; (try simp only [Act.put, List.setIfInBounds_toArray, List.set_cons_zero, List.set_cons_succ])))
            refine seq_do rfl (by rfl) (fun K hK => ?_)
            go_simp
            refine (awake_any _).mono ?_
            rintro e Q2 ⟨rfl, hY⟩
            have c4 := cellB c4 hY
            have x0 := cellB x0 hY
            have x1' := cellB x1' hY
            have hBw := BT hBw hY
            refine hK _ _ ⟨c4, x0, x1'⟩ ?_
            clear hK K hY
            (try simp only [Act.put, List.setIfInBounds_toArray, List.set_cons_zero, List.set_cons_succ])
            repeat (first | (refine seq_read rfl (by rfl) _ (fun w' hS => by (try dsimp only at hS); go_simp; (try with_reducible rfl)) ?_; (try simp only [Act.put, List.setIfInBounds_toArray, List.set_cons_zero, List.set_cons_succ])) | (refine seq_skip rfl (by rfl) ?_; (try simp only [Act.put, List.setIfInBounds_toArray, List.set_cons_zero, List.set_cons_succ])))
            refine seq_end ?_
            go_wp2
            go_ret
            exact ⟨rfl, hBw⟩
        · have m5 : decide (i = k) = false := decide_eq_false hik
          have m6 : (i == k) = false := beq_eq_false_iff_ne.2 hik
          clear f7
          have hdr : Below wr.heap.size wr wr.drew := Below.drew (Below.refl _ _)
          have hBc := BT hBc hdr
          have hBw := BT hBw hdr
          have x0 := cellB x0 hdr
          have x1' := cellB x1' hdr
          have y0 := cellB y0 hdr
          have y1' := cellB y1' hdr
          have s0 := cellB s0 hdr
          have s1' := cellB s1' hdr
          have t0 := cellB t0 hdr
          have t1' := cellB t1' hdr
          have u0 := cellB u0 hdr
          have u1' := cellB u1' hdr
          have v0 := cellB v0 hdr
          have v1' := cellB v1' hdr
          have HBc := Lib.hid (HB.out.grown hBc)
          obtain ⟨⟨c0, c1, c2, c3, c4, c5, c6, c7⟩, hh⟩ := HBc.out
          clear hh c0 c1 c2 c3 c7 hdr
          go_wp2_with fail
          refine wp_region_seq [(0, true), (1, true), (2, true), (3, true), (4, true), (5, true), (6, true), (7, true), (8, true), (9, true), (10, true), (11, true), (12, true), (13, true), (14, true), (15, true), (16, true), (17, true), (18, true), (19, true), (20, true), (21, true), (22, true), (23, true), (24, true), (25, true), (26, true), (27, true), (28, true), (29, true), (30, true), (31, true), (32, true), (33, true), (34, true), (35, true), (36, false), (37, true), (38, true), (39, true), (40, true), (41, true), (42, true), (43, true), (44, true), (45, false), (46, true), (47, true), (48, true)]
            (fun w' => w'.cell? ⟨w.heap.size, 5, none⟩ = some (.int .i64 h.hLo) ∧ w'.cell? ⟨w.heap.size, 6, none⟩ = some (.int .i64 h.hHi) ∧ w'.cell? ⟨Px, 0, none⟩ = some (.int .i64 x1) ∧ w'.cell? ⟨Px, 1, none⟩ = some (.int .i64 x2) ∧ w'.cell? ⟨Ps, 0, none⟩ = some (.int .i64 s1) ∧ w'.cell? ⟨Ps, 1, none⟩ = some (.int .i64 s2) ∧ w'.cell? ⟨Pt, 0, none⟩ = some (.int .i64 (-s2)) ∧ w'.cell? ⟨Pt, 1, none⟩ = some (.int .i64 (-s1))) (by kernel_rfl) (by kernel_rfl) (fun _ _ d _ _ h => by cases d <;> exact h) ⟨c5, c6, x0, x1', s0, s1', t0, t1'⟩ ?_
          generalize wr.drew = Y0 at *
          repeat (first | (refine seq_read rfl (by rfl) _ (fun w' hS => by (try dsimp only at hS); go_simp; (try with_reducible rfl)) ?_; (try simp only [Act.put, List.setIfInBounds_toArray, List.set_cons_zero, List.set_cons_succ])) | (refine seq_skip rfl (by rfl) ?_; (try simp only [Act.put, List.setIfInBounds_toArray, List.set_cons_zero, List.set_cons_succ])))
          refine seq_do rfl (by rfl) (fun K hK => ?_)
          go_simp
          refine (spanL_any _ _ _).mono ?_
          rintro e Y1 ⟨rfl, hY⟩
          have c5 := cellB c5 hY
          have c6 := cellB c6 hY
          have c4 := cellB c4 hY
          have x0 := cellB x0 hY
          have x1' := cellB x1' hY
          have y0 := cellB y0 hY
          have y1' := cellB y1' hY
          have s0 := cellB s0 hY
          have s1' := cellB s1' hY
          have t0 := cellB t0 hY
          have t1' := cellB t1' hY
          have u0 := cellB u0 hY
          have u1' := cellB u1' hY
          have v0 := cellB v0 hY
          have v1' := cellB v1' hY
          have hBw := BT hBw hY
          refine hK _ _ ⟨c5, c6, x0, x1', s0, s1', t0, t1'⟩ ?_
          clear hK K hY
          (try simp only [Act.put, List.setIfInBounds_toArray, List.set_cons_zero, List.set_cons_succ])
          repeat (first | (refine seq_read rfl (by rfl) _ (fun w' hS => by (try dsimp only at hS); go_simp; (try with_reducible rfl)) ?_; (try simp only [Act.put, List.setIfInBounds_toArray, List.set_cons_zero, List.set_cons_succ])) | (refine seq_skip rfl (by rfl) ?_; (try simp only [Act.put, List.setIfInBounds_toArray, List.set_cons_zero, List.set_cons_succ])))
          refine seq_end ?_
          go_upto_region 23 with fail
          have hdr : Below Y1.heap.size Y1 Y1.drew := Below.drew (Below.refl _ _)
          have c4 := cellB c4 hdr
          have x0 := cellB x0 hdr
          have x1' := cellB x1' hdr
          have hBw := BT hBw hdr
          clear c5 c6 y0 y1' s0 s1' t0 t1' u0 u1' v0 v1'
          have e1 : sure / 2 ^ h.eyes.toNat = 0 := Int.ediv_eq_zero_of_lt k1 k2
          have q1 : (sure / 2 ^ h.eyes.toNat == 0) = true := by rw [e1]; rfl
          have hsv : 0 ≤ sure / 2 ^ i.toNat ∧ sure / 2 ^ i.toNat < 16 := by
            have h1 := pow_eyes hE4
            have h2 : (0 : Int) < 2 ^ i.toNat := Int.pow_pos (by decide)
            exact ⟨Int.ediv_nonneg k1 (by omega), Int.lt_of_le_of_lt (Int.ediv_le_self _ k1) (by omega)⟩
          have hand := and_one hsv
          rw [k3] at hand
          have hi0 := hi.1
          clear k3 hsv k2 e1
          cases hin : inB0 x1 x2
          all_goals
            rw [hin] at hand
            simp only [Bool.false_eq_true, if_false, if_true] at hand
            go_wp2_with fail
            refine wp_region_seq [(0, true), (1, true), (2, true), (3, true), (4, true), (5, true), (6, true), (7, true), (8, true), (9, true), (10, true), (11, true), (12, true), (13, true), (14, true), (15, true), (16, false), (17, true), (18, true), (19, true), (20, true), (21, false), (22, true), (23, true)]
              (fun w' => w'.cell? ⟨w.heap.size, 4, none⟩ = some (.int .i64 h.eyes) ∧ w'.cell? ⟨Px, 0, none⟩ = some (.int .i64 x1) ∧ w'.cell? ⟨Px, 1, none⟩ = some (.int .i64 x2)) (by kernel_rfl) (by kernel_rfl) (fun _ _ d _ _ h => by cases d <;> exact h) ⟨c4, x0, x1'⟩ ?_
            generalize Y1.drew = Q0 at *
            repeat (first | (refine seq_read rfl (by rfl) _ (fun w' hS => by (try dsimp only at hS); go_simp; (try with_reducible rfl)) ?_; (try simp only [Act.put, List.setIfInBounds_toArray, List.set_cons_zero, List.set_cons_succ])) | (refine seq_skip rfl (by rfl) ?_; (try simp only [Act.put, List.setIfInBounds_toArray, List.set_cons_zero, List.set_cons_succ])))
            refine seq_do rfl (by rfl) (fun K hK => ?_)
            go_simp
            refine (inside_any _ _ _).mono ?_
            rw [hin]
            rintro e Q1 ⟨rfl, hY⟩
            have c4 := cellB c4 hY
            have x0 := cellB x0 hY
            have x1' := cellB x1' hY
            have hBw := BT hBw hY
            refine hK _ _ ⟨c4, x0, x1'⟩ ?_
            clear hK K hY
            (try simp only [Act.put, List.setIfInBounds_toArray, List.set_cons_zero, List.set_cons_succ])
            repeat (first | (refine seq_read rfl (by rfl) _ (fun w' hS => by (try dsimp only at hS); go_simp; (try with_reducible rfl)) ?_; (try simp only [Act.put, List.setIfInBounds_toArray, List.set_cons_zero, List.set_cons_succ])) | (refine seq_skip rfl (by rfl) ?_; (try simp only [Act.put, List.setIfInBounds_toArray, List.set_cons_zero, List.set_cons_succ])))
            refine seq_do rfl (by rfl) (fun K hK => ?_)
            go_simp
            refine (awake_any _).mono ?_
            rintro e Q2 ⟨rfl, hY⟩
            have c4 := cellB c4 hY
            have x0 := cellB x0 hY
            have x1' := cellB x1' hY
            have hBw := BT hBw hY
            refine hK _ _ ⟨c4, x0, x1'⟩ ?_
            clear hK K hY
            (try simp only [Act.put, List.setIfInBounds_toArray, List.set_cons_zero, List.set_cons_succ])
            repeat (first | (refine seq_read rfl (by rfl) _ (fun w' hS => by (try dsimp only at hS); go_simp; (try with_reducible rfl)) ?_; (try simp only [Act.put, List.setIfInBounds_toArray, List.set_cons_zero, List.set_cons_succ])) | (refine seq_skip rfl (by rfl) ?_; (try simp only [Act.put, List.setIfInBounds_toArray, List.set_cons_zero, List.set_cons_succ])))
            refine seq_end ?_
            go_wp2
            go_ret
            exact ⟨rfl, hBw⟩
end Ey
end Go.Proofs.Ytcfjakifeihbpaa
