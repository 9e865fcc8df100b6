/- Eye: looking at a valid watch. -/
import Derived.Test.YtcfjakifeihbpaaGreatElk
import Derived.OwnWalk
import Derived.Laws.OwnMore
namespace Go.Proofs.YtcfjakifeihbpaaGreat
namespace Ey
open Go.RowKit

/-- The call returns a watch that is looked at. -/
def LookOut (w : World) (h : Wd) (ts : List (Int × Int)) (e : Ending) (w' : World) : Prop :=
  ∃ L tv, e = .returned (.pointer (some ⟨L, 0, none⟩)) ∧ Below w.heap.size w w' ∧ IsW w w' L h tv ts

set_option maxRecDepth 100000 in
set_option maxHeartbeats 4000000 in
theorem lookAt_yes (h : Wd) (xs : List (Int × Int)) (ls : List LkV) (w : World) (hm : HasW w h xs ls) (hv : validW h xs ls = true) : Calls Tryz.prog 20 #[h.val] w (LookOut w h (ls.map (travOf h xs))) := by
  have HM := Lib.hid hm
  have HV := Lib.hid hv
  have hc : Hid (∀ Y, Below w.heap.size w Y → Calls Tryz.prog 63 #[h.val] Y (Ret (.bool true) Y)) := fun Y hY => by rw [← HV.out]; exact valid_any h xs ls Y (HM.out.below hY)
  have HK := Lib.hid (validW_look hv)
  clear hm hv
  have hT : Hid (∀ l : LkV, lookB h xs l = true → l.2.2 ≤ 9223372036854775807 → ∀ Y, Below w.heap.size w Y → Calls Tryz.prog 17 #[.agg #[.slice h.a h.n h.cap, .int .i64 h.eLo, .int .i64 h.eHi], .int .i64 l.2.2] Y (Ret (.tuple #[.agg #[.int .i64 (travOf h xs l).1, .int .i64 (travOf h xs l).2], .int .i64 0]) Y)) := fun l hl hr Y hY => by
    have hw := HM.out.below hY
    have := travel_any16 h.a h.cap h.eLo h.eHi l.2.2 xs Y hw.sp hw.lx hr
    rw [hw.nx, travelR_of h xs l (by unfold lookB at hl; simp only [Bool.and_eq_true] at hl; exact hl.2)] at this
    exact this
  have hln : Hid (h.ln ≤ 12) := by show _ ≤ _; rw [← HM.out.nl]; exact HK.out.1
  unfold Wd.val at hc ⊢
  go_enter Tryz.func20, Tryz.ntmps20
  go_wp2_with (first | (go_at_call 63; refine (hc.out _ (by (repeat (first | assumption | exact Below.refl _ _ | refine BA ?_ _ | refine BC ?_ _ _ (by omega) _ | refine Below.drew ?_ | refine BT ?_ (by assumption))))).mono ?_; rintro e w1 ⟨rfl, hb1⟩; have hcc := (bcell hb1).1; have hz1 : w.heap.size < w1.heap.size := (by have := hb1.size; simp at this; omega)) | (go_at_call 62; refine (insist_yes _ _).mono ?_; rintro e w2 ⟨rfl, hb2⟩; have hcc2 := (bcell hb2).1))
  have hB2 : Below w.heap.size w w2 := by (repeat (first | assumption | exact Below.refl _ _ | refine BA ?_ _ | refine BC ?_ _ _ (by omega) _ | refine Below.drew ?_ | refine BT ?_ (by assumption)))
  have hk : IsW w (w2.alloc (Obj.cells #[.slice h.a h.n h.cap, .int .i64 h.eLo, .int .i64 h.eHi, .int .i64 h.images, .int .i64 h.eyes, .int .i64 h.hLo, .int .i64 h.hHi, .slice h.la h.ln h.lcap, .slice none 0 0] 62)) w2.heap.size h (.slice none 0 0) [] := ⟨hB2.size, heap_new _ _, World.ownsRow_nil _ _ _ _⟩
  have HI0 := Lib.hid hk; clear hk
  have HB2 := Lib.hid hB2; clear hB2 hb1 hb2 hcc hcc2
  clear hc hz1
  have hln1 := hln.out
  go_loopw [20] (fun i wr => ∃ k : Nat, k ≤ h.ln ∧ i = .int .i64 k ∧ (∃ tv, IsW w wr w2.heap.size h tv ((ls.take k).map (travOf h xs))) ∧ Below w.heap.size w wr) (fun i _ => h.ln - (intOf i).toNat)
  case atStart => exact ⟨0, by omega, rfl, ⟨_, HI0.out⟩, BA HB2.out _⟩
  case round =>
    obtain ⟨k, hk, rfl, ⟨tv, hI⟩, hB⟩ := hrel
    have hk0 : (0 : Int) ≤ (k : Int) := by omega
    by_cases hlt : k < h.ln
    · have hkl : k < ls.length := by rw [HM.out.nl]; exact hlt
      rcases HM.out.lk with hnil | ⟨bt, ot, hla, hbt, hct⟩
      · exfalso; rw [hnil] at hkl; simp at hkl
      obtain ⟨d0, d1, d2, d3⟩ := hct k hkl
      have hlb := HK.out.2 k hkl
      have hTl := Lib.hid (hT.out _ hlb d3)
      have hst : Hid ((ls.take (k + 1)).map (travOf h xs) = (ls.take k).map (travOf h xs) ++ [travOf h xs (ls.getD k (0, 0, 0))]) := by
        show _ = _
        rw [List.take_succ_eq_append_getElem hkl, List.map_append]
        simp [List.getD, hkl]
      have hlen : Hid (((ls.take k).map (travOf h xs)).length ≤ 12) := by
        show _ ≤ _; have := HK.out.1; simp only [List.length_map, List.length_take]; omega
      have d0 := cellB d0 hB
      have d1 := cellB d1 hB
      have d2 := cellB d2 hB
      have hbr : bt < wr.heap.size := by have := hB.size; omega
      clear hct hlb hkl
      generalize travOf h xs (ls.getD k (0, 0, 0)) = t at hTl hst
      generalize ls.getD k (0, 0, 0) = lv at d0 d1 d2 d3 hTl
      generalize (ls.take k).map (travOf h xs) = ts at hst hlen hI
      obtain ⟨ey, im, rd⟩ := lv
      obtain ⟨lo, hi⟩ := t
      dsimp only at d0 d1 d2 d3 hTl
      obtain ⟨c0, c1, c2, c3, c4, c5, c6, c7⟩ := hI.box
      have c8 := hI.c8
      have HI := Lib.hid hI
      have HB := Lib.hid hB
      have hLl : w2.heap.size < wr.heap.size := hI.lt
      clear hI hB
      rw [hla] at c7 ⊢
      have HLA := Lib.hid hla
      clear hla
      go_upto_region 7 with (first | (go_at_call 17; refine (hTl.out _ (BT HB.out (by (repeat (first | assumption | exact Below.refl _ _ | refine BA ?_ _ | refine BC ?_ _ _ (by omega) _ | refine Below.drew ?_ | refine BT ?_ (by assumption)))))).mono ?_; rintro e w3 ⟨rfl, hb3⟩))
      have hZ := newB wr (.cells #[.int .i64 ey, .int .i64 im, .int .i64 rd] 36)
      have t2 : (wr.alloc (.cells #[.int .i64 ey, .int .i64 im, .int .i64 rd] 36)).cell? ⟨wr.heap.size, 2, none⟩ = some (.int .i64 rd) := by simp [go_sem]
      have c0 := cellB c0 hZ
      have c1 := cellB c1 hZ
      have c2 := cellB c2 hZ
      have HIX := Lib.hid (HI.out.grown hZ)
      have HBX := Lib.hid (BT HB.out hZ)
      clear c3 c4 c5 c6 c7 c8 d0 d1 d2 hZ HI HB
      generalize wr.heap.size = gT at *
      generalize wr.alloc (.cells #[.int .i64 ey, .int .i64 im, .int .i64 rd] 36) = X at *
      refine wp_region_fork [(0, true), (1, true), (2, true), (3, true), (4, true), (5, true), (6, true)] [(7, false), (8, true), (9, true), (10, true), (11, false), (12, false), (13, true)] [(11, false), (7, false), (8, true), (9, true), (10, true), (12, false), (13, true)]
        (fun w' => w'.cell? ⟨w2.heap.size, 0, none⟩ = some (.slice h.a h.n h.cap) ∧ w'.cell? ⟨w2.heap.size, 1, none⟩ = some (.int .i64 h.eLo) ∧ w'.cell? ⟨w2.heap.size, 2, none⟩ = some (.int .i64 h.eHi) ∧ w'.cell? ⟨gT, 2, none⟩ = some (.int .i64 rd)) (by kernel_rfl) (by kernel_rfl) (fun _ _ d _ _ h => by cases d <;> exact h) ⟨c0, c1, c2, t2⟩ ?_
      repeat (first | (refine seq_read rfl (by rfl) _ (fun w' hS => by (try dsimp only at hS); go_simp; (try with_reducible rfl)) ?_; (try simp only [Act.put, List.setIfInBounds_toArray, List.set_cons_zero, List.set_cons_succ])) | (refine seq_skip rfl (by rfl) ?_; (try simp only [Act.put, List.setIfInBounds_toArray, List.set_cons_zero, List.set_cons_succ])))
      apply seq_end
      intro hSd
      constructor
      · refine seq_do rfl (by rfl) (fun K hK => ?_)
        go_simp
        refine (hTl.out _ (Below.drew HBX.out)).mono ?_
        rintro e w3 ⟨rfl, hb1⟩
        have hXw : Below X.heap.size X w3 := BT (Below.drew (Below.refl _ _)) hb1
        refine hK _ _ ⟨cellB c0 hXw, cellB c1 hXw, cellB c2 hXw, cellB t2 hXw⟩ ?_
        clear hK K hSd hb1
        (try simp only [Act.put, List.setIfInBounds_toArray, List.set_cons_zero, List.set_cons_succ])
        repeat (first | (refine seq_read rfl (by rfl) _ (fun w' hS => by (try dsimp only at hS); go_simp; (try with_reducible rfl)) ?_; (try simp only [Act.put, List.setIfInBounds_toArray, List.set_cons_zero, List.set_cons_succ])) | (refine seq_skip rfl (by rfl) ?_; (try simp only [Act.put, List.setIfInBounds_toArray, List.set_cons_zero, List.set_cons_succ])))
        refine seq_do rfl (by rfl) (fun K hK => ?_)
        go_simp
        have hXa : Below X.heap.size X (w3.alloc (Obj.cells #[.int .i64 0, .int .i64 0] 24)) := BA hXw _
        refine hK _ _ ⟨cellB c0 hXa, cellB c1 hXa, cellB c2 hXa, cellB t2 hXa⟩ ?_
        clear hK K
        (try simp only [Act.put, List.setIfInBounds_toArray, List.set_cons_zero, List.set_cons_succ])
        refine seq_do rfl (by rfl) (fun K hK => ?_)
        go_simp
        have hvb : X.heap.size ≤ w3.heap.size := hXw.size
        have hXs : Below X.heap.size X (w3.alloc (Obj.cells #[.int .i64 lo, .int .i64 hi] 24)) := BA hXw _
        have b0 : (w3.alloc (Obj.cells #[.int .i64 lo, .int .i64 hi] 24)).cell? ⟨w3.heap.size, 0, none⟩ = some (.int .i64 lo) := by simp [go_sem]
        have b1 : (w3.alloc (Obj.cells #[.int .i64 lo, .int .i64 hi] 24)).cell? ⟨w3.heap.size, 1, none⟩ = some (.int .i64 hi) := by simp [go_sem]
        refine hK _ _ ⟨cellB c0 hXs, cellB c1 hXs, cellB c2 hXs, cellB t2 hXs⟩ ?_
        clear hK K hXa hXw
        (try simp only [Act.put, List.setIfInBounds_toArray, List.set_cons_zero, List.set_cons_succ])
        repeat (first | (refine seq_read rfl (by rfl) _ (fun w' hS => by (try dsimp only at hS); go_simp; (try with_reducible rfl)) ?_; (try simp only [Act.put, List.setIfInBounds_toArray, List.set_cons_zero, List.set_cons_succ])) | (refine seq_skip rfl (by rfl) ?_; (try simp only [Act.put, List.setIfInBounds_toArray, List.set_cons_zero, List.set_cons_succ])))
        apply seq_end
        generalize w3.alloc (Obj.cells #[.int .i64 lo, .int .i64 hi] 24) = X4 at hXs b0 b1 ⊢
        generalize w3.heap.size = vb at hvb b0 b1 ⊢
        first | show Exit.inBlock _ _ Exit.normal _ _ | show Exit.then _ _ Exit.normal _ _
        have hIw := Lib.hid (HIX.out.grown hXs)
        have hBw := Lib.hid (BT HBX.out hXs)
        have hvo : some vb ≠ tv.ownBlock := fun e => by have := (HIX.out.row.lt _ e.symm).2; omega
        have c8 := hIw.out.c8
        have hl4 : X.heap.size ≤ X4.heap.size := hXs.size
        clear c0 c1 c2 t2 hXs hTl HIX HBX
        go_wp2_with fail
        refine wp_region_seq [(0, true), (1, true), (2, true), (3, true), (4, true), (5, true), (6, false), (7, false), (8, true), (9, true), (10, false)]
          (fun w' => w'.cell? ⟨w2.heap.size, 8, none⟩ = some tv ∧ w'.cell? ⟨vb, 0, none⟩ = some (.int .i64 lo) ∧ w'.cell? ⟨vb, 1, none⟩ = some (.int .i64 hi)) (by kernel_rfl) (by kernel_rfl) (fun _ _ d _ _ h => by cases d <;> exact h) ⟨c8, b0, b1⟩ ?_
        repeat (first | (refine seq_read rfl (by rfl) _ (fun w' hS => by (try dsimp only at hS); go_simp; (try with_reducible rfl)) ?_; (try simp only [Act.put, List.setIfInBounds_toArray, List.set_cons_zero, List.set_cons_succ])) | (refine seq_skip rfl (by rfl) ?_; (try simp only [Act.put, List.setIfInBounds_toArray, List.set_cons_zero, List.set_cons_succ])))
        refine seq_do rfl (by rfl) (fun K hK => ?_)
        go_simp
        have hBd : Below X4.heap.size X4 (X4.alloc (Obj.cells #[.int .i64 lo, .int .i64 hi] 24)).drew := Below.drew (BA (Below.refl _ _) _)
        have s1 := cellB c8 hBd
        have s2 := cellB b0 hBd
        have s3 := cellB b1 hBd
        have hLd := Lib.hid (hIw.out.grown hBd)
        have hBW2 := Lib.hid (BT hBw.out hBd)
        have hnew : ∀ j u, (spanV (lo, hi))[j]? = some u → (X4.alloc (Obj.cells #[.int .i64 lo, .int .i64 hi] 24)).drew.cell? ((⟨X4.heap.size, 0, none⟩ : Addr).add j) = some u := by
          intro j u hj
          have hj2 : j < 2 := by have := (List.getElem?_eq_some_iff.1 hj).1; simpa [spanV] using this
          have : j = 0 ∨ j = 1 := by omega
          rcases this with rfl | rfl <;> (simp [spanV] at hj; subst hj; simp [go_sem, Addr.add])
        refine hK _ _ ⟨s1, s2, s3⟩ ?_
        clear hK K
        (try simp only [Act.put, List.setIfInBounds_toArray, List.set_cons_zero, List.set_cons_succ])
        obtain ⟨i0, hi9, hz0, hz1, hz2⟩ := infoSpP
        refine seq_do rfl (by rfl) (fun K hK => ?_)
        refine wp_append_own _ _ _ 22 rfl w.heap.size 24 i0 (.agg #[.int .i64 0, .int .i64 0]) 2 16 Tryz.underlying22 hi9 hz0 hz1 hz2 rfl (by decide) tv ts.length (ts.flatMap spanV) rfl hLd.out.row ⟨X4.heap.size, 0, none⟩ 1 1 (spanV (lo, hi)) rfl rfl hnew (by simp [spanV, Value.oneCell']) (by have := hlen.out; unfold maxLen; omega) (by have := hlen.out; omega) hBW2.out.size ?_
        intro v' w5 hown hg _
        obtain ⟨g', cap', rfl⟩ := row_succ hown
        have hne1 := hLd.out.apart
        have hl := Lib.hid (hLd.out.put (t := (lo, hi)) hg hown)
        have hb3 : Below w.heap.size w w5 := hBW2.out.grown hg hBW2.out.size (fun k hk => (hLd.out.row.lt k hk).1)
        have hb4 := Lib.hid (BC hb3 w2.heap.size 8 hLd.out.nl (.slice (some ⟨g', 0, none⟩) (ts.length + 1) cap'))
        have m1 := hg.cell s1 hne1
        have mf : w5.frozen? ⟨w2.heap.size, 8, none⟩ = false := (World.frozen?_of_block (a := ⟨w2.heap.size, 8, none⟩) (hg.block w2.heap.size hLd.out.lt hne1)).trans hLd.out.z8
        refine hK _ _ ⟨m1, hg.cell s2 hvo, hg.cell s3 hvo⟩ ?_
        clear hK K hg hown hb3 hLd hBW2 hnew hBd s1 s2 s3 b0 b1 c8
        (try simp only [Act.put, List.setIfInBounds_toArray, List.set_cons_zero, List.set_cons_succ])
        repeat (first | (refine seq_read rfl (by rfl) _ (fun w' hS => by (try dsimp only at hS); go_simp; (try with_reducible rfl)) ?_; (try simp only [Act.put, List.setIfInBounds_toArray, List.set_cons_zero, List.set_cons_succ])) | (refine seq_skip rfl (by rfl) ?_; (try simp only [Act.put, List.setIfInBounds_toArray, List.set_cons_zero, List.set_cons_succ])))
        refine seq_last rfl (by rfl) (by kernel_rfl) (fun K hK => ?_)
        go_simp
        refine hK _ _ ?_
        clear hK K m1 mf
        first | show Exit.inBlock _ _ Exit.normal _ _ | show Exit.then _ _ Exit.normal _ _
        go_wp2_with fail
        go_roundw
        case rel => exact ⟨k + 1, by omega, by go_num, ⟨_, by rw [hst.out]; exact hl.out⟩, hb4.out⟩
        case measure => simp [intOf]; omega
      · refine seq_do rfl (by rfl) (fun K hK => ?_)
        go_simp
        have hXa : Below X.heap.size X (X.alloc (Obj.cells #[.int .i64 0, .int .i64 0] 24)).drew := Below.drew (BA (Below.refl _ _) _)
        refine hK _ _ ⟨cellB c0 hXa, cellB c1 hXa, cellB c2 hXa, cellB t2 hXa⟩ ?_
        clear hK K hSd
        (try simp only [Act.put, List.setIfInBounds_toArray, List.set_cons_zero, List.set_cons_succ])
        refine seq_do rfl (by rfl) (fun K hK => ?_)
        go_simp
        refine (hTl.out _ (BT HBX.out hXa)).mono ?_
        rintro e w3 ⟨rfl, hb1⟩
        have hXw : Below X.heap.size X w3 := BT hXa hb1
        have q0 : w3.cell? ⟨X.heap.size, 0, none⟩ = some (.int .i64 0) := by rw [hb1.cell (p := ⟨X.heap.size, 0, none⟩) (by simp)]; simp
        have q1 : w3.cell? ⟨X.heap.size, 1, none⟩ = some (.int .i64 0) := by rw [hb1.cell (p := ⟨X.heap.size, 1, none⟩) (by simp)]; simp
        have q2 : w3.frozen? ⟨X.heap.size, 0, none⟩ = false := by rw [hb1.frozen (p := ⟨X.heap.size, 0, none⟩) (by simp)]; simp
        have q3 : w3.frozen? ⟨X.heap.size, 1, none⟩ = false := by rw [hb1.frozen (p := ⟨X.heap.size, 1, none⟩) (by simp)]; simp
        refine hK _ _ ⟨cellB c0 hXw, cellB c1 hXw, cellB c2 hXw, cellB t2 hXw⟩ ?_
        clear hK K hb1 hXa
        (try simp only [Act.put, List.setIfInBounds_toArray, List.set_cons_zero, List.set_cons_succ])
        repeat (first | (refine seq_read rfl (by rfl) _ (fun w' hS => by (try dsimp only at hS); go_simp; (try with_reducible rfl)) ?_; (try simp only [Act.put, List.setIfInBounds_toArray, List.set_cons_zero, List.set_cons_succ])) | (refine seq_skip rfl (by rfl) ?_; (try simp only [Act.put, List.setIfInBounds_toArray, List.set_cons_zero, List.set_cons_succ])))
        refine seq_do rfl (by rfl) (fun K hK => ?_)
        go_simp
        have hXs : Below X.heap.size X ((w3.setCell ⟨X.heap.size, 0, none⟩ (.int .i64 lo)).setCell ⟨X.heap.size, 1, none⟩ (.int .i64 hi)) := BC (BC hXw _ _ (Nat.le_refl _) _) _ _ (Nat.le_refl _) _
        have b0 : ((w3.setCell ⟨X.heap.size, 0, none⟩ (.int .i64 lo)).setCell ⟨X.heap.size, 1, none⟩ (.int .i64 hi)).cell? ⟨X.heap.size, 0, none⟩ = some (.int .i64 lo) := by simp [go_sem, q0]
        have b1 : ((w3.setCell ⟨X.heap.size, 0, none⟩ (.int .i64 lo)).setCell ⟨X.heap.size, 1, none⟩ (.int .i64 hi)).cell? ⟨X.heap.size, 1, none⟩ = some (.int .i64 hi) := by simp [go_sem, q1]
        refine hK _ _ ⟨cellB c0 hXs, cellB c1 hXs, cellB c2 hXs, cellB t2 hXs⟩ ?_
        clear hK K hXw
        (try simp only [Act.put, List.setIfInBounds_toArray, List.set_cons_zero, List.set_cons_succ])
        repeat (first | (refine seq_read rfl (by rfl) _ (fun w' hS => by (try dsimp only at hS); go_simp; (try with_reducible rfl)) ?_; (try simp only [Act.put, List.setIfInBounds_toArray, List.set_cons_zero, List.set_cons_succ])) | (refine seq_skip rfl (by rfl) ?_; (try simp only [Act.put, List.setIfInBounds_toArray, List.set_cons_zero, List.set_cons_succ])))
        apply seq_end
        have hvb : X.heap.size ≤ X.heap.size := Nat.le_refl _
        generalize hX4 : (w3.setCell ⟨X.heap.size, 0, none⟩ (.int .i64 lo)).setCell ⟨X.heap.size, 1, none⟩ (.int .i64 hi) = X4 at hXs b0 b1 ⊢
        clear hX4
        have hgv : ∃ vb, vb = X.heap.size := ⟨_, rfl⟩
        obtain ⟨vb, hgv⟩ := hgv
        rw [← hgv] at b0 b1 ⊢
        have hvb : X.heap.size ≤ vb := by omega
        clear hgv
        first | show Exit.inBlock _ _ Exit.normal _ _ | show Exit.then _ _ Exit.normal _ _
        have hIw := Lib.hid (HIX.out.grown hXs)
        have hBw := Lib.hid (BT HBX.out hXs)
        have hvo : some vb ≠ tv.ownBlock := fun e => by have := (HIX.out.row.lt _ e.symm).2; omega
        have c8 := hIw.out.c8
        have hl4 : X.heap.size ≤ X4.heap.size := hXs.size
        clear c0 c1 c2 t2 hXs hTl HIX HBX
        go_wp2_with fail
        refine wp_region_seq [(0, true), (1, true), (2, true), (3, true), (4, true), (5, true), (6, false), (7, false), (8, true), (9, true), (10, false)]
          (fun w' => w'.cell? ⟨w2.heap.size, 8, none⟩ = some tv ∧ w'.cell? ⟨vb, 0, none⟩ = some (.int .i64 lo) ∧ w'.cell? ⟨vb, 1, none⟩ = some (.int .i64 hi)) (by kernel_rfl) (by kernel_rfl) (fun _ _ d _ _ h => by cases d <;> exact h) ⟨c8, b0, b1⟩ ?_
        repeat (first | (refine seq_read rfl (by rfl) _ (fun w' hS => by (try dsimp only at hS); go_simp; (try with_reducible rfl)) ?_; (try simp only [Act.put, List.setIfInBounds_toArray, List.set_cons_zero, List.set_cons_succ])) | (refine seq_skip rfl (by rfl) ?_; (try simp only [Act.put, List.setIfInBounds_toArray, List.set_cons_zero, List.set_cons_succ])))
        refine seq_do rfl (by rfl) (fun K hK => ?_)
        go_simp
        have hBd : Below X4.heap.size X4 (X4.alloc (Obj.cells #[.int .i64 lo, .int .i64 hi] 24)).drew := Below.drew (BA (Below.refl _ _) _)
        have s1 := cellB c8 hBd
        have s2 := cellB b0 hBd
        have s3 := cellB b1 hBd
        have hLd := Lib.hid (hIw.out.grown hBd)
        have hBW2 := Lib.hid (BT hBw.out hBd)
        have hnew : ∀ j u, (spanV (lo, hi))[j]? = some u → (X4.alloc (Obj.cells #[.int .i64 lo, .int .i64 hi] 24)).drew.cell? ((⟨X4.heap.size, 0, none⟩ : Addr).add j) = some u := by
          intro j u hj
          have hj2 : j < 2 := by have := (List.getElem?_eq_some_iff.1 hj).1; simpa [spanV] using this
          have : j = 0 ∨ j = 1 := by omega
          rcases this with rfl | rfl <;> (simp [spanV] at hj; subst hj; simp [go_sem, Addr.add])
        refine hK _ _ ⟨s1, s2, s3⟩ ?_
        clear hK K
        (try simp only [Act.put, List.setIfInBounds_toArray, List.set_cons_zero, List.set_cons_succ])
        obtain ⟨i0, hi9, hz0, hz1, hz2⟩ := infoSpP
        refine seq_do rfl (by rfl) (fun K hK => ?_)
        refine wp_append_own _ _ _ 22 rfl w.heap.size 24 i0 (.agg #[.int .i64 0, .int .i64 0]) 2 16 Tryz.underlying22 hi9 hz0 hz1 hz2 rfl (by decide) tv ts.length (ts.flatMap spanV) rfl hLd.out.row ⟨X4.heap.size, 0, none⟩ 1 1 (spanV (lo, hi)) rfl rfl hnew (by simp [spanV, Value.oneCell']) (by have := hlen.out; unfold maxLen; omega) (by have := hlen.out; omega) hBW2.out.size ?_
        intro v' w5 hown hg _
        obtain ⟨g', cap', rfl⟩ := row_succ hown
        have hne1 := hLd.out.apart
        have hl := Lib.hid (hLd.out.put (t := (lo, hi)) hg hown)
        have hb3 : Below w.heap.size w w5 := hBW2.out.grown hg hBW2.out.size (fun k hk => (hLd.out.row.lt k hk).1)
        have hb4 := Lib.hid (BC hb3 w2.heap.size 8 hLd.out.nl (.slice (some ⟨g', 0, none⟩) (ts.length + 1) cap'))
        have m1 := hg.cell s1 hne1
        have mf : w5.frozen? ⟨w2.heap.size, 8, none⟩ = false := (World.frozen?_of_block (a := ⟨w2.heap.size, 8, none⟩) (hg.block w2.heap.size hLd.out.lt hne1)).trans hLd.out.z8
        refine hK _ _ ⟨m1, hg.cell s2 hvo, hg.cell s3 hvo⟩ ?_
        clear hK K hg hown hb3 hLd hBW2 hnew hBd s1 s2 s3 b0 b1 c8
        (try simp only [Act.put, List.setIfInBounds_toArray, List.set_cons_zero, List.set_cons_succ])
        repeat (first | (refine seq_read rfl (by rfl) _ (fun w' hS => by (try dsimp only at hS); go_simp; (try with_reducible rfl)) ?_; (try simp only [Act.put, List.setIfInBounds_toArray, List.set_cons_zero, List.set_cons_succ])) | (refine seq_skip rfl (by rfl) ?_; (try simp only [Act.put, List.setIfInBounds_toArray, List.set_cons_zero, List.set_cons_succ])))
        refine seq_last rfl (by rfl) (by kernel_rfl) (fun K hK => ?_)
        go_simp
        refine hK _ _ ?_
        clear hK K m1 mf
        first | show Exit.inBlock _ _ Exit.normal _ _ | show Exit.then _ _ Exit.normal _ _
        go_wp2_with fail
        go_roundw
        case rel => exact ⟨k + 1, by omega, by go_num, ⟨_, by rw [hst.out]; exact hl.out⟩, hb4.out⟩
        case measure => simp [intOf]; omega
    · obtain rfl : k = h.ln := by omega
      go_wp2
      go_ret
      refine ⟨w2.heap.size, tv, rfl, hB, ?_⟩
      rwa [List.take_of_length_le (by rw [HM.out.nl]; omega)] at hI
end Ey
end Go.Proofs.YtcfjakifeihbpaaGreat
