/- The law's own: does one of two measures tell more of a place with the least sum, or with the greatest one? -/
import Derived.Test.YtmfbkgdlfackcaaIdb
import Derived.Test.YtmfbkgdlfackcaaSev
import Derived.Test.YtmfbkgdlfackcaaWit
import Derived.Test.YtmfbkgdlfackcaaHea
namespace Go.Proofs.Ytmfbkgdlfackcaa
open Fw Go.RowKit

set_option maxRecDepth 100000 in
set_option maxHeartbeats 8000000 in
theorem bound_anyR (h h' : Hd) (xs : List (Int × Int)) (ss ss' : List Sett) (b : Bool) (w : World) (hm : HasM w h xs ss) (hm' : HasM w h' xs ss') (hv : validH h xs ss = true) (hv' : validH h' xs ss' = true)
    (hb : b = true ↔ BoundP h ss h' ss' xs) : Calls Try.prog 43 #[h.val, h'.val] w (Ret (.bool b) w) := by
  have HM := Lib.hid hm
  have HM' := Lib.hid hm'
  have HB := Lib.hid hb
  have h12 : h.ns ≤ 12 := by rw [← hm.ns]; exact (valid_has hv).2.2.2.2.2.1
  have h12' : h'.ns ≤ 12 := by rw [← hm'.ns]; exact (valid_has hv').2.2.2.2.2.1
  have hI := (valid_has hv).2.2.2.1
  obtain ⟨N, hN⟩ : ∃ N : Nat, h.images = (N : Int) := ⟨h.images.toNat, by omega⟩
  have hN6 : N ≤ 6 := by omega
  have HIM := Lib.hid hN
  obtain ⟨al, hal⟩ : ∃ al : Int, (2 : Int) ^ h.ns - 1 = al := ⟨_, rfl⟩
  obtain ⟨al', hal'⟩ : ∃ al' : Int, (2 : Int) ^ h'.ns - 1 = al' := ⟨_, rfl⟩
  have KW : Hid (IntKind.i64.wrap (IntKind.i64.wrap (2 ^ h.ns) - 1) = al) := by
    have := (by decide +kernel : ∀ k : Fin 13, IntKind.i64.wrap (IntKind.i64.wrap (2 ^ k.val) - 1) = 2 ^ k.val - 1) ⟨h.ns, by omega⟩
    rw [← hal]; exact this
  have KW' : Hid (IntKind.i64.wrap (IntKind.i64.wrap (2 ^ h'.ns) - 1) = al') := by
    have := (by decide +kernel : ∀ k : Fin 13, IntKind.i64.wrap (IntKind.i64.wrap (2 ^ k.val) - 1) = 2 ^ k.val - 1) ⟨h'.ns, by omega⟩
    rw [← hal']; exact this
  have hA : allS ss = al := by unfold allS; rw [hm.ns]; exact hal
  have hA' : allS ss' = al' := by unfold allS; rw [hm'.ns]; exact hal'
  have hS1 : Hid (∀ Y, Below w.heap.size w Y → Calls Try.prog 46 #[.agg #[.slice h.a h.n h.cap, .int .i64 h.eLo, .int .i64 h.eHi, .int .i64 h.images, .int .i64 h.sLo, .int .i64 h.sHi, .slice h.sa h.ns h.scap], .int .i64 al] Y (Ret (.agg #[.int .i64 (sumsS h xs ss (allS ss)).1, .int .i64 (sumsS h xs ss (allS ss)).2]) Y)) := fun Y hY => by
    have := sums_anyR h xs ss (allS ss) Y (HM.out.below (Nat.le_refl _) hY) hv (allS_rng (valid_has hv).2.2.2.2.2.1)
    rw [hA] at this ⊢; exact this
  have hS2 : Hid (∀ Y, Below w.heap.size w Y → Calls Try.prog 46 #[.agg #[.slice h'.a h'.n h'.cap, .int .i64 h'.eLo, .int .i64 h'.eHi, .int .i64 h'.images, .int .i64 h'.sLo, .int .i64 h'.sHi, .slice h'.sa h'.ns h'.scap], .int .i64 al'] Y (Ret (.agg #[.int .i64 (sumsS h' xs ss' (allS ss')).1, .int .i64 (sumsS h' xs ss' (allS ss')).2]) Y)) := fun Y hY => by
    have := sums_anyR h' xs ss' (allS ss') Y (HM'.out.below (Nat.le_refl _) hY) hv' (allS_rng (valid_has hv').2.2.2.2.2.1)
    rw [hA'] at this ⊢; exact this
  have HPL : Hid (∀ Y n i, Below w.heap.size w Y → Calls Try.prog 20 #[.agg #[.slice h.a h.n h.cap, .int .i64 h.eLo, .int .i64 h.eHi, .int .i64 h.images, .int .i64 n, .int .i64 n, .slice h.sa h.ns h.scap], .int .i64 i] Y (Ret (reply (placeA (withN h n) xs ss i)) Y)) := fun Y n i hY => place_any i (withN h n) xs ss Y (withN_has (HM.out.below (Nat.le_refl _) hY) n)
  have HPL' : Hid (∀ Y n i, Below w.heap.size w Y → Calls Try.prog 20 #[.agg #[.slice h'.a h'.n h'.cap, .int .i64 h'.eLo, .int .i64 h'.eHi, .int .i64 h'.images, .int .i64 n, .int .i64 n, .slice h'.sa h'.ns h'.scap], .int .i64 i] Y (Ret (reply (placeA (withN h' n) xs ss' i)) Y)) := fun Y n i hY => place_any i (withN h' n) xs ss' Y (withN_has (HM'.out.below (Nat.le_refl _) hY) n)
  have HR1 : Hid (∀ n i, ∃ l u c : Int, reply (placeA (withN h n) xs ss i) = .tuple #[.agg #[.int .i64 l, .int .i64 u], .int .i64 c]) := fun n i => reply_eq (placeA_sp _ _ _ _)
  have HR2 : Hid (∀ n i, ∃ l u c : Int, reply (placeA (withN h' n) xs ss' i) = .tuple #[.agg #[.int .i64 l, .int .i64 u], .int .i64 c]) := fun n i => reply_eq (placeA_sp _ _ _ _)
  unfold BoundP at HB
  generalize sumsS h xs ss (allS ss) = S1 at *
  generalize sumsS h' xs ss' (allS ss') = S2 at *
  obtain ⟨rp, hrp⟩ : ∃ rp : Int → Int → Value, ∀ n i, reply (placeA (withN h n) xs ss i) = rp n i := ⟨_, fun _ _ => rfl⟩
  obtain ⟨rq, hrq⟩ : ∃ rq : Int → Int → Value, ∀ n i, reply (placeA (withN h' n) xs ss' i) = rq n i := ⟨_, fun _ _ => rfl⟩
  simp only [hrp] at HB HPL HR1
  simp only [hrq] at HB HPL' HR2
  obtain ⟨s1, s2⟩ := S1
  obtain ⟨a1, a2⟩ := S2
  dsimp only at HB
  have hC0 : Hid (BoxC ((w.alloc (.cells #[.slice h.a h.n h.cap, .int .i64 h.eLo, .int .i64 h.eHi, .int .i64 h.images, .int .i64 h.sLo, .int .i64 h.sHi, .slice h.sa h.ns h.scap] 29)).alloc (.cells #[.slice h'.a h'.n h'.cap, .int .i64 h'.eLo, .int .i64 h'.eHi, .int .i64 h'.images, .int .i64 h'.sLo, .int .i64 h'.sHi, .slice h'.sa h'.ns h'.scap] 29)) w.heap.size h) := (boxC_new w h).grown (newB _ _)
  have hC0' : Hid (BoxC ((w.alloc (.cells #[.slice h.a h.n h.cap, .int .i64 h.eLo, .int .i64 h.eHi, .int .i64 h.images, .int .i64 h.sLo, .int .i64 h.sHi, .slice h.sa h.ns h.scap] 29)).alloc (.cells #[.slice h'.a h'.n h'.cap, .int .i64 h'.eLo, .int .i64 h'.eHi, .int .i64 h'.images, .int .i64 h'.sLo, .int .i64 h'.sHi, .slice h'.sa h'.ns h'.scap] 29)) (w.heap.size + 1) h') := by
    have := boxC_new (w.alloc (.cells #[.slice h.a h.n h.cap, .int .i64 h.eLo, .int .i64 h.eHi, .int .i64 h.images, .int .i64 h.sLo, .int .i64 h.sHi, .slice h.sa h.ns h.scap] 29)) h'
    show BoxC _ _ _
    simpa using this
  have hW0 : Hid (Below w.heap.size w ((w.alloc (.cells #[.slice h.a h.n h.cap, .int .i64 h.eLo, .int .i64 h.eHi, .int .i64 h.images, .int .i64 h.sLo, .int .i64 h.sHi, .slice h.sa h.ns h.scap] 29)).alloc (.cells #[.slice h'.a h'.n h'.cap, .int .i64 h'.eLo, .int .i64 h'.eHi, .int .i64 h'.images, .int .i64 h'.sLo, .int .i64 h'.sHi, .slice h'.sa h'.ns h'.scap] 29))) := by
    show Below _ _ _
    (repeat (first | assumption | exact Below.refl _ _ | refine BA ?_ _ | refine BC ?_ _ _ (by omega) _ | refine Below.drew ?_ | refine BT ?_ (by assumption)))
  clear hm hm' hv hv' hb hI hA hA' hal hal' hrp hrq hN
  unfold Hd.val
  go_enter Try.func43, Try.ntmps43
  go_upto_region 1 with fail
  generalize hBw : w.heap.size = B at hC0 hC0' ⊢
  generalize (w.alloc (.cells #[.slice h.a h.n h.cap, .int .i64 h.eLo, .int .i64 h.eHi, .int .i64 h.images, .int .i64 h.sLo, .int .i64 h.sHi, .slice h.sa h.ns h.scap] 29)).alloc (.cells #[.slice h'.a h'.n h'.cap, .int .i64 h'.eLo, .int .i64 h'.eHi, .int .i64 h'.images, .int .i64 h'.sLo, .int .i64 h'.sHi, .slice h'.sa h'.ns h'.scap] 29) = w1 at *
  have hwB : w.heap.size ≤ B := by omega
  clear hBw
  have hSG : Hid (∀ X, Below w1.heap.size w1 X → X.cell? ⟨B, 0, none⟩ = some (.slice h.a h.n h.cap) ∧ X.cell? ⟨B, 1, none⟩ = some (.int .i64 h.eLo) ∧ X.cell? ⟨B, 2, none⟩ = some (.int .i64 h.eHi) ∧ X.cell? ⟨B, 3, none⟩ = some (.int .i64 h.images) ∧ X.cell? ⟨B, 4, none⟩ = some (.int .i64 h.sLo) ∧ X.cell? ⟨B, 5, none⟩ = some (.int .i64 h.sHi) ∧ X.cell? ⟨B, 6, none⟩ = some (.slice h.sa h.ns h.scap) ∧ X.cell? ⟨B + 1, 0, none⟩ = some (.slice h'.a h'.n h'.cap) ∧ X.cell? ⟨B + 1, 1, none⟩ = some (.int .i64 h'.eLo) ∧ X.cell? ⟨B + 1, 2, none⟩ = some (.int .i64 h'.eHi) ∧ X.cell? ⟨B + 1, 3, none⟩ = some (.int .i64 h'.images) ∧ X.cell? ⟨B + 1, 4, none⟩ = some (.int .i64 h'.sLo) ∧ X.cell? ⟨B + 1, 5, none⟩ = some (.int .i64 h'.sHi) ∧ X.cell? ⟨B + 1, 6, none⟩ = some (.slice h'.sa h'.ns h'.scap)) := fun X hX => by
    obtain ⟨d0, d1, d2, d3, d4, d5, d6⟩ := hC0.out.grown hX
    obtain ⟨e0, e1, e2, e3, e4, e5, e6⟩ := hC0'.out.grown hX
    exact ⟨d0, d1, d2, d3, d4, d5, d6, e0, e1, e2, e3, e4, e5, e6⟩
  have hU1 : Hid (∀ Y, Below w1.heap.size w1 Y → Calls Try.prog 46 #[.agg #[.slice h.a h.n h.cap, .int .i64 h.eLo, .int .i64 h.eHi, .int .i64 h.images, .int .i64 h.sLo, .int .i64 h.sHi, .slice h.sa h.ns h.scap], .int .i64 al] Y (Ret (.agg #[.int .i64 s1, .int .i64 s2]) Y)) := fun Y hY => hS1.out Y (BT hW0.out hY)
  have hU2 : Hid (∀ Y, Below w1.heap.size w1 Y → Calls Try.prog 46 #[.agg #[.slice h'.a h'.n h'.cap, .int .i64 h'.eLo, .int .i64 h'.eHi, .int .i64 h'.images, .int .i64 h'.sLo, .int .i64 h'.sHi, .slice h'.sa h'.ns h'.scap], .int .i64 al'] Y (Ret (.agg #[.int .i64 a1, .int .i64 a2]) Y)) := fun Y hY => hS2.out Y (BT hW0.out hY)
  have hB0 : Below w1.heap.size w1 w1.drew := Below.drew (Below.refl _ _)
  have kw := KW.out
  have kw' := KW'.out
  clear hS1 hS2 KW KW'
  go_cut [5, 6] (fun a5 a6 X => ∃ g14 g15 : Nat, a5 = .pointer (some ⟨g14, 0, none⟩) ∧ a6 = .pointer (some ⟨g15, 0, none⟩) ∧ Two g14 s1 s2 X ∧ Two g15 a1 a2 X ∧ Below w1.heap.size w1 X)
  case first =>
    refine wp_region_tree (.read 0 (.read 1 (.read 2 (.read 3 (.read 4 (.read 5 (.read 7 (.read 8 (.read 9 (.read 10 (.read 11 (.read 12 (.three 6 (.three 13 (.two 14 (.one 15 (.one 16 (.one 17 (.leaf)))) 15 (.one 14 (.one 16 (.one 17 (.leaf))))) 14 (.two 13 (.one 15 (.one 16 (.one 17 (.leaf)))) 15 (.one 13 (.one 16 (.one 17 (.leaf))))) 15 (.two 13 (.one 14 (.one 16 (.one 17 (.leaf)))) 14 (.one 13 (.one 16 (.one 17 (.leaf)))))) 14 (.two 6 (.two 13 (.one 15 (.one 16 (.one 17 (.leaf)))) 15 (.one 13 (.one 16 (.one 17 (.leaf))))) 15 (.one 6 (.one 13 (.one 16 (.one 17 (.leaf)))))) 15 (.two 6 (.two 13 (.one 14 (.one 16 (.one 17 (.leaf)))) 14 (.one 13 (.one 16 (.one 17 (.leaf))))) 14 (.one 6 (.one 13 (.one 16 (.one 17 (.leaf))))))))))))))))))) (fun w' => w'.cell? ⟨B, 0, none⟩ = some (.slice h.a h.n h.cap) ∧ w'.cell? ⟨B, 1, none⟩ = some (.int .i64 h.eLo) ∧ w'.cell? ⟨B, 2, none⟩ = some (.int .i64 h.eHi) ∧ w'.cell? ⟨B, 3, none⟩ = some (.int .i64 h.images) ∧ w'.cell? ⟨B, 4, none⟩ = some (.int .i64 h.sLo) ∧ w'.cell? ⟨B, 5, none⟩ = some (.int .i64 h.sHi) ∧ w'.cell? ⟨B, 6, none⟩ = some (.slice h.sa h.ns h.scap) ∧ w'.cell? ⟨B + 1, 0, none⟩ = some (.slice h'.a h'.n h'.cap) ∧ w'.cell? ⟨B + 1, 1, none⟩ = some (.int .i64 h'.eLo) ∧ w'.cell? ⟨B + 1, 2, none⟩ = some (.int .i64 h'.eHi) ∧ w'.cell? ⟨B + 1, 3, none⟩ = some (.int .i64 h'.images) ∧ w'.cell? ⟨B + 1, 4, none⟩ = some (.int .i64 h'.sLo) ∧ w'.cell? ⟨B + 1, 5, none⟩ = some (.int .i64 h'.sHi) ∧ w'.cell? ⟨B + 1, 6, none⟩ = some (.slice h'.sa h'.ns h'.scap)) (by kernel_rfl) (by kernel_rfl) (fun _ _ d _ _ h => by cases d <;> exact h) (hSG.out _ hB0) ?_
    generalize w1.drew = X0 at *
    repeat (first | (refine tr_read rfl (by rfl) _ (fun w' hS => by (try dsimp only at hS); go_simp; (try with_reducible rfl)) ?_; (try simp only [Act.put, List.setIfInBounds_toArray, List.set_cons_zero, List.set_cons_succ])) | (refine tr_skip rfl (by rfl) ?_; (try simp only [Act.put, List.setIfInBounds_toArray, List.set_cons_zero, List.set_cons_succ])))
    refine ⟨?_, ?_, ?_⟩
    · skip
      refine tr_step rfl (by rfl) (fun K hK => ?_)
      go_simp
      refine (hU1.out X0 hB0).mono ?_
      rintro e X1 ⟨rfl, hb1⟩
      have hB1 := BT hB0 hb1
      refine hK _ _ (hSG.out _ hB1) ?_
      clear hK K hB0 hb1
      (try simp only [Act.put, List.setIfInBounds_toArray, List.set_cons_zero, List.set_cons_succ])
      refine ⟨?_, ?_, ?_⟩
      · skip
        refine tr_step rfl (by rfl) (fun K hK => ?_)
        go_simp
        refine (hU2.out X1 hB1).mono ?_
        rintro e X2 ⟨rfl, hb2⟩
        have hB2 := BT hB1 hb2
        refine hK _ _ (hSG.out _ hB2) ?_
        clear hK K hB1 hb2
        (try simp only [Act.put, List.setIfInBounds_toArray, List.set_cons_zero, List.set_cons_succ])
        refine ⟨?_, ?_⟩
        · skip
          refine tr_step rfl (by rfl) (fun K hK => ?_)
          have hB3 := BA hB2 (.cells #[.int .i64 0, .int .i64 0] 24)
          have h14_3 := slots_new2 X2 24
          have hg14 := hB2.size
          go_simp
          generalize X2.heap.size = g14 at *
          generalize X2.alloc (.cells #[.int .i64 0, .int .i64 0] 24) = X3 at *
          refine hK _ _ (hSG.out _ hB3) ?_
          clear hK K hB2 
          (try simp only [Act.put, List.setIfInBounds_toArray, List.set_cons_zero, List.set_cons_succ])
          refine tr_step rfl (by rfl) (fun K hK => ?_)
          have hB4 := BA hB3 (.cells #[.int .i64 0, .int .i64 0] 24)
          have h14_4 := h14_3.below (newB X3 (.cells #[.int .i64 0, .int .i64 0] 24)) (h14_3.lt2)
          have hlt14_4 := h14_3.lt2
          have h15_4 := slots_new2 X3 24
          have hg15 := hB3.size
          go_simp
          generalize X3.heap.size = g15 at *
          generalize X3.alloc (.cells #[.int .i64 0, .int .i64 0] 24) = X4 at *
          refine hK _ _ (hSG.out _ hB4) ?_
          clear hK K hB3 h14_3
          (try simp only [Act.put, List.setIfInBounds_toArray, List.set_cons_zero, List.set_cons_succ])
          refine tr_step rfl (by rfl) (fun K hK => ?_)
          obtain ⟨u0_5, q0_5, f0_5⟩ := h14_4.get 0 (by omega)
          obtain ⟨u1_5, q1_5, f1_5⟩ := h14_4.get 1 (by omega)
          have hB5 := BC (BC hB4 g14 0 hg14 (.int .i64 (s1))) g14 1 hg14 (.int .i64 (s2))
          have h15_5 := (h15_4.set ⟨g14, 0, none⟩ (.int .i64 (s1))).set ⟨g14, 1, none⟩ (.int .i64 (s2))
          have h14_5 := two_set h14_4 (s1) (s2)
          go_simp
          clear q0_5 f0_5 q1_5 f1_5
          generalize (X4.setCell ⟨g14, 0, none⟩ (.int .i64 (s1))).setCell ⟨g14, 1, none⟩ (.int .i64 (s2)) = X5 at *
          refine hK _ _ (hSG.out _ hB5) ?_
          clear hK K hB4 h15_4 h14_4
          (try simp only [Act.put, List.setIfInBounds_toArray, List.set_cons_zero, List.set_cons_succ])
          refine tr_last rfl (by rfl) (by kernel_rfl) (fun K hK => ?_)
          obtain ⟨u0_6, q0_6, f0_6⟩ := h15_5.get 0 (by omega)
          obtain ⟨u1_6, q1_6, f1_6⟩ := h15_5.get 1 (by omega)
          have hB6 := BC (BC hB5 g15 0 hg15 (.int .i64 (a1))) g15 1 hg15 (.int .i64 (a2))
          have h14_6 := h14_5.far (g' := g15) (by omega) (a1) (a2)
          have h15_6 := two_set h15_5 (a1) (a2)
          go_simp
          clear q0_6 f0_6 q1_6 f1_6
          generalize (X5.setCell ⟨g15, 0, none⟩ (.int .i64 (a1))).setCell ⟨g15, 1, none⟩ (.int .i64 (a2)) = X6 at *
          refine hK _ _ ?_
          clear hK K hB5 h14_5 h15_5
          (try simp only [Act.put, List.setIfInBounds_toArray, List.set_cons_zero, List.set_cons_succ])
          show Exit.then _ _ Exit.normal _ _
          go_wp2_with fail
          go_meet
          exact ⟨g14, g15, rfl, rfl, h14_6, h15_6, hB6⟩
        · skip
          refine tr_step rfl (by rfl) (fun K hK => ?_)
          have hB7 := BA hB2 (.cells #[.int .i64 0, .int .i64 0] 24)
          have h15_7 := slots_new2 X2 24
          have hg15 := hB2.size
          go_simp
          generalize X2.heap.size = g15 at *
          generalize X2.alloc (.cells #[.int .i64 0, .int .i64 0] 24) = X7 at *
          refine hK _ _ (hSG.out _ hB7) ?_
          clear hK K hB2 
          (try simp only [Act.put, List.setIfInBounds_toArray, List.set_cons_zero, List.set_cons_succ])
          refine tr_step rfl (by rfl) (fun K hK => ?_)
          have hB8 := BA hB7 (.cells #[.int .i64 0, .int .i64 0] 24)
          have h15_8 := h15_7.below (newB X7 (.cells #[.int .i64 0, .int .i64 0] 24)) (h15_7.lt2)
          have hlt15_8 := h15_7.lt2
          have h14_8 := slots_new2 X7 24
          have hg14 := hB7.size
          go_simp
          generalize X7.heap.size = g14 at *
          generalize X7.alloc (.cells #[.int .i64 0, .int .i64 0] 24) = X8 at *
          refine hK _ _ (hSG.out _ hB8) ?_
          clear hK K hB7 h15_7
          (try simp only [Act.put, List.setIfInBounds_toArray, List.set_cons_zero, List.set_cons_succ])
          refine tr_step rfl (by rfl) (fun K hK => ?_)
          obtain ⟨u0_9, q0_9, f0_9⟩ := h14_8.get 0 (by omega)
          obtain ⟨u1_9, q1_9, f1_9⟩ := h14_8.get 1 (by omega)
          have hB9 := BC (BC hB8 g14 0 hg14 (.int .i64 (s1))) g14 1 hg14 (.int .i64 (s2))
          have h15_9 := (h15_8.set ⟨g14, 0, none⟩ (.int .i64 (s1))).set ⟨g14, 1, none⟩ (.int .i64 (s2))
          have h14_9 := two_set h14_8 (s1) (s2)
          go_simp
          clear q0_9 f0_9 q1_9 f1_9
          generalize (X8.setCell ⟨g14, 0, none⟩ (.int .i64 (s1))).setCell ⟨g14, 1, none⟩ (.int .i64 (s2)) = X9 at *
          refine hK _ _ (hSG.out _ hB9) ?_
          clear hK K hB8 h15_8 h14_8
          (try simp only [Act.put, List.setIfInBounds_toArray, List.set_cons_zero, List.set_cons_succ])
          refine tr_last rfl (by rfl) (by kernel_rfl) (fun K hK => ?_)
          obtain ⟨u0_10, q0_10, f0_10⟩ := h15_9.get 0 (by omega)
          obtain ⟨u1_10, q1_10, f1_10⟩ := h15_9.get 1 (by omega)
          have hB10 := BC (BC hB9 g15 0 hg15 (.int .i64 (a1))) g15 1 hg15 (.int .i64 (a2))
          have h14_10 := h14_9.far (g' := g15) (by omega) (a1) (a2)
          have h15_10 := two_set h15_9 (a1) (a2)
          go_simp
          clear q0_10 f0_10 q1_10 f1_10
          generalize (X9.setCell ⟨g15, 0, none⟩ (.int .i64 (a1))).setCell ⟨g15, 1, none⟩ (.int .i64 (a2)) = X10 at *
          refine hK _ _ ?_
          clear hK K hB9 h14_9 h15_9
          (try simp only [Act.put, List.setIfInBounds_toArray, List.set_cons_zero, List.set_cons_succ])
          show Exit.then _ _ Exit.normal _ _
          go_wp2_with fail
          go_meet
          exact ⟨g14, g15, rfl, rfl, h14_10, h15_10, hB10⟩
      · skip
        refine tr_step rfl (by rfl) (fun K hK => ?_)
        have hB11 := BA hB1 (.cells #[.int .i64 0, .int .i64 0] 24)
        have h14_11 := slots_new2 X1 24
        have hg14 := hB1.size
        go_simp
        generalize X1.heap.size = g14 at *
        generalize X1.alloc (.cells #[.int .i64 0, .int .i64 0] 24) = X11 at *
        refine hK _ _ (hSG.out _ hB11) ?_
        clear hK K hB1 
        (try simp only [Act.put, List.setIfInBounds_toArray, List.set_cons_zero, List.set_cons_succ])
        refine ⟨?_, ?_⟩
        · skip
          refine tr_step rfl (by rfl) (fun K hK => ?_)
          go_simp
          refine (hU2.out X11 hB11).mono ?_
          rintro e X12 ⟨rfl, hb12⟩
          have hB12 := BT hB11 hb12
          have h14_12 := h14_11.below hb12 (h14_11.lt2)
          refine hK _ _ (hSG.out _ hB12) ?_
          clear hK K hB11 h14_11 hb12
          (try simp only [Act.put, List.setIfInBounds_toArray, List.set_cons_zero, List.set_cons_succ])
          refine tr_step rfl (by rfl) (fun K hK => ?_)
          have hB13 := BA hB12 (.cells #[.int .i64 0, .int .i64 0] 24)
          have h14_13 := h14_12.below (newB X12 (.cells #[.int .i64 0, .int .i64 0] 24)) (h14_12.lt2)
          have hlt14_13 := h14_12.lt2
          have h15_13 := slots_new2 X12 24
          have hg15 := hB12.size
          go_simp
          generalize X12.heap.size = g15 at *
          generalize X12.alloc (.cells #[.int .i64 0, .int .i64 0] 24) = X13 at *
          refine hK _ _ (hSG.out _ hB13) ?_
          clear hK K hB12 h14_12
          (try simp only [Act.put, List.setIfInBounds_toArray, List.set_cons_zero, List.set_cons_succ])
          refine tr_step rfl (by rfl) (fun K hK => ?_)
          obtain ⟨u0_14, q0_14, f0_14⟩ := h14_13.get 0 (by omega)
          obtain ⟨u1_14, q1_14, f1_14⟩ := h14_13.get 1 (by omega)
          have hB14 := BC (BC hB13 g14 0 hg14 (.int .i64 (s1))) g14 1 hg14 (.int .i64 (s2))
          have h15_14 := (h15_13.set ⟨g14, 0, none⟩ (.int .i64 (s1))).set ⟨g14, 1, none⟩ (.int .i64 (s2))
          have h14_14 := two_set h14_13 (s1) (s2)
          go_simp
          clear q0_14 f0_14 q1_14 f1_14
          generalize (X13.setCell ⟨g14, 0, none⟩ (.int .i64 (s1))).setCell ⟨g14, 1, none⟩ (.int .i64 (s2)) = X14 at *
          refine hK _ _ (hSG.out _ hB14) ?_
          clear hK K hB13 h15_13 h14_13
          (try simp only [Act.put, List.setIfInBounds_toArray, List.set_cons_zero, List.set_cons_succ])
          refine tr_last rfl (by rfl) (by kernel_rfl) (fun K hK => ?_)
          obtain ⟨u0_15, q0_15, f0_15⟩ := h15_14.get 0 (by omega)
          obtain ⟨u1_15, q1_15, f1_15⟩ := h15_14.get 1 (by omega)
          have hB15 := BC (BC hB14 g15 0 hg15 (.int .i64 (a1))) g15 1 hg15 (.int .i64 (a2))
          have h14_15 := h14_14.far (g' := g15) (by omega) (a1) (a2)
          have h15_15 := two_set h15_14 (a1) (a2)
          go_simp
          clear q0_15 f0_15 q1_15 f1_15
          generalize (X14.setCell ⟨g15, 0, none⟩ (.int .i64 (a1))).setCell ⟨g15, 1, none⟩ (.int .i64 (a2)) = X15 at *
          refine hK _ _ ?_
          clear hK K hB14 h14_14 h15_14
          (try simp only [Act.put, List.setIfInBounds_toArray, List.set_cons_zero, List.set_cons_succ])
          show Exit.then _ _ Exit.normal _ _
          go_wp2_with fail
          go_meet
          exact ⟨g14, g15, rfl, rfl, h14_15, h15_15, hB15⟩
        · skip
          refine tr_step rfl (by rfl) (fun K hK => ?_)
          have hB16 := BA hB11 (.cells #[.int .i64 0, .int .i64 0] 24)
          have h14_16 := h14_11.below (newB X11 (.cells #[.int .i64 0, .int .i64 0] 24)) (h14_11.lt2)
          have hlt14_16 := h14_11.lt2
          have h15_16 := slots_new2 X11 24
          have hg15 := hB11.size
          go_simp
          generalize X11.heap.size = g15 at *
          generalize X11.alloc (.cells #[.int .i64 0, .int .i64 0] 24) = X16 at *
          refine hK _ _ (hSG.out _ hB16) ?_
          clear hK K hB11 h14_11
          (try simp only [Act.put, List.setIfInBounds_toArray, List.set_cons_zero, List.set_cons_succ])
          refine tr_step rfl (by rfl) (fun K hK => ?_)
          go_simp
          refine (hU2.out X16 hB16).mono ?_
          rintro e X17 ⟨rfl, hb17⟩
          have hB17 := BT hB16 hb17
          have h14_17 := h14_16.below hb17 (h14_16.lt2)
          have h15_17 := h15_16.below hb17 (h15_16.lt2)
          refine hK _ _ (hSG.out _ hB17) ?_
          clear hK K hB16 h14_16 h15_16 hb17
          (try simp only [Act.put, List.setIfInBounds_toArray, List.set_cons_zero, List.set_cons_succ])
          refine tr_step rfl (by rfl) (fun K hK => ?_)
          obtain ⟨u0_18, q0_18, f0_18⟩ := h14_17.get 0 (by omega)
          obtain ⟨u1_18, q1_18, f1_18⟩ := h14_17.get 1 (by omega)
          have hB18 := BC (BC hB17 g14 0 hg14 (.int .i64 (s1))) g14 1 hg14 (.int .i64 (s2))
          have h15_18 := (h15_17.set ⟨g14, 0, none⟩ (.int .i64 (s1))).set ⟨g14, 1, none⟩ (.int .i64 (s2))
          have h14_18 := two_set h14_17 (s1) (s2)
          go_simp
          clear q0_18 f0_18 q1_18 f1_18
          generalize (X17.setCell ⟨g14, 0, none⟩ (.int .i64 (s1))).setCell ⟨g14, 1, none⟩ (.int .i64 (s2)) = X18 at *
          refine hK _ _ (hSG.out _ hB18) ?_
          clear hK K hB17 h15_17 h14_17
          (try simp only [Act.put, List.setIfInBounds_toArray, List.set_cons_zero, List.set_cons_succ])
          refine tr_last rfl (by rfl) (by kernel_rfl) (fun K hK => ?_)
          obtain ⟨u0_19, q0_19, f0_19⟩ := h15_18.get 0 (by omega)
          obtain ⟨u1_19, q1_19, f1_19⟩ := h15_18.get 1 (by omega)
          have hB19 := BC (BC hB18 g15 0 hg15 (.int .i64 (a1))) g15 1 hg15 (.int .i64 (a2))
          have h14_19 := h14_18.far (g' := g15) (by omega) (a1) (a2)
          have h15_19 := two_set h15_18 (a1) (a2)
          go_simp
          clear q0_19 f0_19 q1_19 f1_19
          generalize (X18.setCell ⟨g15, 0, none⟩ (.int .i64 (a1))).setCell ⟨g15, 1, none⟩ (.int .i64 (a2)) = X19 at *
          refine hK _ _ ?_
          clear hK K hB18 h14_18 h15_18
          (try simp only [Act.put, List.setIfInBounds_toArray, List.set_cons_zero, List.set_cons_succ])
          show Exit.then _ _ Exit.normal _ _
          go_wp2_with fail
          go_meet
          exact ⟨g14, g15, rfl, rfl, h14_19, h15_19, hB19⟩
      · skip
        refine tr_step rfl (by rfl) (fun K hK => ?_)
        have hB20 := BA hB1 (.cells #[.int .i64 0, .int .i64 0] 24)
        have h15_20 := slots_new2 X1 24
        have hg15 := hB1.size
        go_simp
        generalize X1.heap.size = g15 at *
        generalize X1.alloc (.cells #[.int .i64 0, .int .i64 0] 24) = X20 at *
        refine hK _ _ (hSG.out _ hB20) ?_
        clear hK K hB1 
        (try simp only [Act.put, List.setIfInBounds_toArray, List.set_cons_zero, List.set_cons_succ])
        refine ⟨?_, ?_⟩
        · skip
          refine tr_step rfl (by rfl) (fun K hK => ?_)
          go_simp
          refine (hU2.out X20 hB20).mono ?_
          rintro e X21 ⟨rfl, hb21⟩
          have hB21 := BT hB20 hb21
          have h15_21 := h15_20.below hb21 (h15_20.lt2)
          refine hK _ _ (hSG.out _ hB21) ?_
          clear hK K hB20 h15_20 hb21
          (try simp only [Act.put, List.setIfInBounds_toArray, List.set_cons_zero, List.set_cons_succ])
          refine tr_step rfl (by rfl) (fun K hK => ?_)
          have hB22 := BA hB21 (.cells #[.int .i64 0, .int .i64 0] 24)
          have h15_22 := h15_21.below (newB X21 (.cells #[.int .i64 0, .int .i64 0] 24)) (h15_21.lt2)
          have hlt15_22 := h15_21.lt2
          have h14_22 := slots_new2 X21 24
          have hg14 := hB21.size
          go_simp
          generalize X21.heap.size = g14 at *
          generalize X21.alloc (.cells #[.int .i64 0, .int .i64 0] 24) = X22 at *
          refine hK _ _ (hSG.out _ hB22) ?_
          clear hK K hB21 h15_21
          (try simp only [Act.put, List.setIfInBounds_toArray, List.set_cons_zero, List.set_cons_succ])
          refine tr_step rfl (by rfl) (fun K hK => ?_)
          obtain ⟨u0_23, q0_23, f0_23⟩ := h14_22.get 0 (by omega)
          obtain ⟨u1_23, q1_23, f1_23⟩ := h14_22.get 1 (by omega)
          have hB23 := BC (BC hB22 g14 0 hg14 (.int .i64 (s1))) g14 1 hg14 (.int .i64 (s2))
          have h15_23 := (h15_22.set ⟨g14, 0, none⟩ (.int .i64 (s1))).set ⟨g14, 1, none⟩ (.int .i64 (s2))
          have h14_23 := two_set h14_22 (s1) (s2)
          go_simp
          clear q0_23 f0_23 q1_23 f1_23
          generalize (X22.setCell ⟨g14, 0, none⟩ (.int .i64 (s1))).setCell ⟨g14, 1, none⟩ (.int .i64 (s2)) = X23 at *
          refine hK _ _ (hSG.out _ hB23) ?_
          clear hK K hB22 h15_22 h14_22
          (try simp only [Act.put, List.setIfInBounds_toArray, List.set_cons_zero, List.set_cons_succ])
          refine tr_last rfl (by rfl) (by kernel_rfl) (fun K hK => ?_)
          obtain ⟨u0_24, q0_24, f0_24⟩ := h15_23.get 0 (by omega)
          obtain ⟨u1_24, q1_24, f1_24⟩ := h15_23.get 1 (by omega)
          have hB24 := BC (BC hB23 g15 0 hg15 (.int .i64 (a1))) g15 1 hg15 (.int .i64 (a2))
          have h14_24 := h14_23.far (g' := g15) (by omega) (a1) (a2)
          have h15_24 := two_set h15_23 (a1) (a2)
          go_simp
          clear q0_24 f0_24 q1_24 f1_24
          generalize (X23.setCell ⟨g15, 0, none⟩ (.int .i64 (a1))).setCell ⟨g15, 1, none⟩ (.int .i64 (a2)) = X24 at *
          refine hK _ _ ?_
          clear hK K hB23 h14_23 h15_23
          (try simp only [Act.put, List.setIfInBounds_toArray, List.set_cons_zero, List.set_cons_succ])
          show Exit.then _ _ Exit.normal _ _
          go_wp2_with fail
          go_meet
          exact ⟨g14, g15, rfl, rfl, h14_24, h15_24, hB24⟩
        · skip
          refine tr_step rfl (by rfl) (fun K hK => ?_)
          have hB25 := BA hB20 (.cells #[.int .i64 0, .int .i64 0] 24)
          have h15_25 := h15_20.below (newB X20 (.cells #[.int .i64 0, .int .i64 0] 24)) (h15_20.lt2)
          have hlt15_25 := h15_20.lt2
          have h14_25 := slots_new2 X20 24
          have hg14 := hB20.size
          go_simp
          generalize X20.heap.size = g14 at *
          generalize X20.alloc (.cells #[.int .i64 0, .int .i64 0] 24) = X25 at *
          refine hK _ _ (hSG.out _ hB25) ?_
          clear hK K hB20 h15_20
          (try simp only [Act.put, List.setIfInBounds_toArray, List.set_cons_zero, List.set_cons_succ])
          refine tr_step rfl (by rfl) (fun K hK => ?_)
          go_simp
          refine (hU2.out X25 hB25).mono ?_
          rintro e X26 ⟨rfl, hb26⟩
          have hB26 := BT hB25 hb26
          have h15_26 := h15_25.below hb26 (h15_25.lt2)
          have h14_26 := h14_25.below hb26 (h14_25.lt2)
          refine hK _ _ (hSG.out _ hB26) ?_
          clear hK K hB25 h15_25 h14_25 hb26
          (try simp only [Act.put, List.setIfInBounds_toArray, List.set_cons_zero, List.set_cons_succ])
          refine tr_step rfl (by rfl) (fun K hK => ?_)
          obtain ⟨u0_27, q0_27, f0_27⟩ := h14_26.get 0 (by omega)
          obtain ⟨u1_27, q1_27, f1_27⟩ := h14_26.get 1 (by omega)
          have hB27 := BC (BC hB26 g14 0 hg14 (.int .i64 (s1))) g14 1 hg14 (.int .i64 (s2))
          have h15_27 := (h15_26.set ⟨g14, 0, none⟩ (.int .i64 (s1))).set ⟨g14, 1, none⟩ (.int .i64 (s2))
          have h14_27 := two_set h14_26 (s1) (s2)
          go_simp
          clear q0_27 f0_27 q1_27 f1_27
          generalize (X26.setCell ⟨g14, 0, none⟩ (.int .i64 (s1))).setCell ⟨g14, 1, none⟩ (.int .i64 (s2)) = X27 at *
          refine hK _ _ (hSG.out _ hB27) ?_
          clear hK K hB26 h15_26 h14_26
          (try simp only [Act.put, List.setIfInBounds_toArray, List.set_cons_zero, List.set_cons_succ])
          refine tr_last rfl (by rfl) (by kernel_rfl) (fun K hK => ?_)
          obtain ⟨u0_28, q0_28, f0_28⟩ := h15_27.get 0 (by omega)
          obtain ⟨u1_28, q1_28, f1_28⟩ := h15_27.get 1 (by omega)
          have hB28 := BC (BC hB27 g15 0 hg15 (.int .i64 (a1))) g15 1 hg15 (.int .i64 (a2))
          have h14_28 := h14_27.far (g' := g15) (by omega) (a1) (a2)
          have h15_28 := two_set h15_27 (a1) (a2)
          go_simp
          clear q0_28 f0_28 q1_28 f1_28
          generalize (X27.setCell ⟨g15, 0, none⟩ (.int .i64 (a1))).setCell ⟨g15, 1, none⟩ (.int .i64 (a2)) = X28 at *
          refine hK _ _ ?_
          clear hK K hB27 h14_27 h15_27
          (try simp only [Act.put, List.setIfInBounds_toArray, List.set_cons_zero, List.set_cons_succ])
          show Exit.then _ _ Exit.normal _ _
          go_wp2_with fail
          go_meet
          exact ⟨g14, g15, rfl, rfl, h14_28, h15_28, hB28⟩
    · skip
      refine tr_step rfl (by rfl) (fun K hK => ?_)
      have hB29 := BA hB0 (.cells #[.int .i64 0, .int .i64 0] 24)
      have h14_29 := slots_new2 X0 24
      have hg14 := hB0.size
      go_simp
      generalize X0.heap.size = g14 at *
      generalize X0.alloc (.cells #[.int .i64 0, .int .i64 0] 24) = X29 at *
      refine hK _ _ (hSG.out _ hB29) ?_
      clear hK K hB0 
      (try simp only [Act.put, List.setIfInBounds_toArray, List.set_cons_zero, List.set_cons_succ])
      refine ⟨?_, ?_⟩
      · skip
        refine tr_step rfl (by rfl) (fun K hK => ?_)
        go_simp
        refine (hU1.out X29 hB29).mono ?_
        rintro e X30 ⟨rfl, hb30⟩
        have hB30 := BT hB29 hb30
        have h14_30 := h14_29.below hb30 (h14_29.lt2)
        refine hK _ _ (hSG.out _ hB30) ?_
        clear hK K hB29 h14_29 hb30
        (try simp only [Act.put, List.setIfInBounds_toArray, List.set_cons_zero, List.set_cons_succ])
        refine ⟨?_, ?_⟩
        · skip
          refine tr_step rfl (by rfl) (fun K hK => ?_)
          go_simp
          refine (hU2.out X30 hB30).mono ?_
          rintro e X31 ⟨rfl, hb31⟩
          have hB31 := BT hB30 hb31
          have h14_31 := h14_30.below hb31 (h14_30.lt2)
          refine hK _ _ (hSG.out _ hB31) ?_
          clear hK K hB30 h14_30 hb31
          (try simp only [Act.put, List.setIfInBounds_toArray, List.set_cons_zero, List.set_cons_succ])
          refine tr_step rfl (by rfl) (fun K hK => ?_)
          have hB32 := BA hB31 (.cells #[.int .i64 0, .int .i64 0] 24)
          have h14_32 := h14_31.below (newB X31 (.cells #[.int .i64 0, .int .i64 0] 24)) (h14_31.lt2)
          have hlt14_32 := h14_31.lt2
          have h15_32 := slots_new2 X31 24
          have hg15 := hB31.size
          go_simp
          generalize X31.heap.size = g15 at *
          generalize X31.alloc (.cells #[.int .i64 0, .int .i64 0] 24) = X32 at *
          refine hK _ _ (hSG.out _ hB32) ?_
          clear hK K hB31 h14_31
          (try simp only [Act.put, List.setIfInBounds_toArray, List.set_cons_zero, List.set_cons_succ])
          refine tr_step rfl (by rfl) (fun K hK => ?_)
          obtain ⟨u0_33, q0_33, f0_33⟩ := h14_32.get 0 (by omega)
          obtain ⟨u1_33, q1_33, f1_33⟩ := h14_32.get 1 (by omega)
          have hB33 := BC (BC hB32 g14 0 hg14 (.int .i64 (s1))) g14 1 hg14 (.int .i64 (s2))
          have h15_33 := (h15_32.set ⟨g14, 0, none⟩ (.int .i64 (s1))).set ⟨g14, 1, none⟩ (.int .i64 (s2))
          have h14_33 := two_set h14_32 (s1) (s2)
          go_simp
          clear q0_33 f0_33 q1_33 f1_33
          generalize (X32.setCell ⟨g14, 0, none⟩ (.int .i64 (s1))).setCell ⟨g14, 1, none⟩ (.int .i64 (s2)) = X33 at *
          refine hK _ _ (hSG.out _ hB33) ?_
          clear hK K hB32 h15_32 h14_32
          (try simp only [Act.put, List.setIfInBounds_toArray, List.set_cons_zero, List.set_cons_succ])
          refine tr_last rfl (by rfl) (by kernel_rfl) (fun K hK => ?_)
          obtain ⟨u0_34, q0_34, f0_34⟩ := h15_33.get 0 (by omega)
          obtain ⟨u1_34, q1_34, f1_34⟩ := h15_33.get 1 (by omega)
          have hB34 := BC (BC hB33 g15 0 hg15 (.int .i64 (a1))) g15 1 hg15 (.int .i64 (a2))
          have h14_34 := h14_33.far (g' := g15) (by omega) (a1) (a2)
          have h15_34 := two_set h15_33 (a1) (a2)
          go_simp
          clear q0_34 f0_34 q1_34 f1_34
          generalize (X33.setCell ⟨g15, 0, none⟩ (.int .i64 (a1))).setCell ⟨g15, 1, none⟩ (.int .i64 (a2)) = X34 at *
          refine hK _ _ ?_
          clear hK K hB33 h14_33 h15_33
          (try simp only [Act.put, List.setIfInBounds_toArray, List.set_cons_zero, List.set_cons_succ])
          show Exit.then _ _ Exit.normal _ _
          go_wp2_with fail
          go_meet
          exact ⟨g14, g15, rfl, rfl, h14_34, h15_34, hB34⟩
        · skip
          refine tr_step rfl (by rfl) (fun K hK => ?_)
          have hB35 := BA hB30 (.cells #[.int .i64 0, .int .i64 0] 24)
          have h14_35 := h14_30.below (newB X30 (.cells #[.int .i64 0, .int .i64 0] 24)) (h14_30.lt2)
          have hlt14_35 := h14_30.lt2
          have h15_35 := slots_new2 X30 24
          have hg15 := hB30.size
          go_simp
          generalize X30.heap.size = g15 at *
          generalize X30.alloc (.cells #[.int .i64 0, .int .i64 0] 24) = X35 at *
          refine hK _ _ (hSG.out _ hB35) ?_
          clear hK K hB30 h14_30
          (try simp only [Act.put, List.setIfInBounds_toArray, List.set_cons_zero, List.set_cons_succ])
          refine tr_step rfl (by rfl) (fun K hK => ?_)
          go_simp
          refine (hU2.out X35 hB35).mono ?_
          rintro e X36 ⟨rfl, hb36⟩
          have hB36 := BT hB35 hb36
          have h14_36 := h14_35.below hb36 (h14_35.lt2)
          have h15_36 := h15_35.below hb36 (h15_35.lt2)
          refine hK _ _ (hSG.out _ hB36) ?_
          clear hK K hB35 h14_35 h15_35 hb36
          (try simp only [Act.put, List.setIfInBounds_toArray, List.set_cons_zero, List.set_cons_succ])
          refine tr_step rfl (by rfl) (fun K hK => ?_)
          obtain ⟨u0_37, q0_37, f0_37⟩ := h14_36.get 0 (by omega)
          obtain ⟨u1_37, q1_37, f1_37⟩ := h14_36.get 1 (by omega)
          have hB37 := BC (BC hB36 g14 0 hg14 (.int .i64 (s1))) g14 1 hg14 (.int .i64 (s2))
          have h15_37 := (h15_36.set ⟨g14, 0, none⟩ (.int .i64 (s1))).set ⟨g14, 1, none⟩ (.int .i64 (s2))
          have h14_37 := two_set h14_36 (s1) (s2)
          go_simp
          clear q0_37 f0_37 q1_37 f1_37
          generalize (X36.setCell ⟨g14, 0, none⟩ (.int .i64 (s1))).setCell ⟨g14, 1, none⟩ (.int .i64 (s2)) = X37 at *
          refine hK _ _ (hSG.out _ hB37) ?_
          clear hK K hB36 h15_36 h14_36
          (try simp only [Act.put, List.setIfInBounds_toArray, List.set_cons_zero, List.set_cons_succ])
          refine tr_last rfl (by rfl) (by kernel_rfl) (fun K hK => ?_)
          obtain ⟨u0_38, q0_38, f0_38⟩ := h15_37.get 0 (by omega)
          obtain ⟨u1_38, q1_38, f1_38⟩ := h15_37.get 1 (by omega)
          have hB38 := BC (BC hB37 g15 0 hg15 (.int .i64 (a1))) g15 1 hg15 (.int .i64 (a2))
          have h14_38 := h14_37.far (g' := g15) (by omega) (a1) (a2)
          have h15_38 := two_set h15_37 (a1) (a2)
          go_simp
          clear q0_38 f0_38 q1_38 f1_38
          generalize (X37.setCell ⟨g15, 0, none⟩ (.int .i64 (a1))).setCell ⟨g15, 1, none⟩ (.int .i64 (a2)) = X38 at *
          refine hK _ _ ?_
          clear hK K hB37 h14_37 h15_37
          (try simp only [Act.put, List.setIfInBounds_toArray, List.set_cons_zero, List.set_cons_succ])
          show Exit.then _ _ Exit.normal _ _
          go_wp2_with fail
          go_meet
          exact ⟨g14, g15, rfl, rfl, h14_38, h15_38, hB38⟩
      · skip
        refine tr_step rfl (by rfl) (fun K hK => ?_)
        have hB39 := BA hB29 (.cells #[.int .i64 0, .int .i64 0] 24)
        have h14_39 := h14_29.below (newB X29 (.cells #[.int .i64 0, .int .i64 0] 24)) (h14_29.lt2)
        have hlt14_39 := h14_29.lt2
        have h15_39 := slots_new2 X29 24
        have hg15 := hB29.size
        go_simp
        generalize X29.heap.size = g15 at *
        generalize X29.alloc (.cells #[.int .i64 0, .int .i64 0] 24) = X39 at *
        refine hK _ _ (hSG.out _ hB39) ?_
        clear hK K hB29 h14_29
        (try simp only [Act.put, List.setIfInBounds_toArray, List.set_cons_zero, List.set_cons_succ])
        refine tr_step rfl (by rfl) (fun K hK => ?_)
        go_simp
        refine (hU1.out X39 hB39).mono ?_
        rintro e X40 ⟨rfl, hb40⟩
        have hB40 := BT hB39 hb40
        have h14_40 := h14_39.below hb40 (h14_39.lt2)
        have h15_40 := h15_39.below hb40 (h15_39.lt2)
        refine hK _ _ (hSG.out _ hB40) ?_
        clear hK K hB39 h14_39 h15_39 hb40
        (try simp only [Act.put, List.setIfInBounds_toArray, List.set_cons_zero, List.set_cons_succ])
        refine tr_step rfl (by rfl) (fun K hK => ?_)
        go_simp
        refine (hU2.out X40 hB40).mono ?_
        rintro e X41 ⟨rfl, hb41⟩
        have hB41 := BT hB40 hb41
        have h14_41 := h14_40.below hb41 (h14_40.lt2)
        have h15_41 := h15_40.below hb41 (h15_40.lt2)
        refine hK _ _ (hSG.out _ hB41) ?_
        clear hK K hB40 h14_40 h15_40 hb41
        (try simp only [Act.put, List.setIfInBounds_toArray, List.set_cons_zero, List.set_cons_succ])
        refine tr_step rfl (by rfl) (fun K hK => ?_)
        obtain ⟨u0_42, q0_42, f0_42⟩ := h14_41.get 0 (by omega)
        obtain ⟨u1_42, q1_42, f1_42⟩ := h14_41.get 1 (by omega)
        have hB42 := BC (BC hB41 g14 0 hg14 (.int .i64 (s1))) g14 1 hg14 (.int .i64 (s2))
        have h15_42 := (h15_41.set ⟨g14, 0, none⟩ (.int .i64 (s1))).set ⟨g14, 1, none⟩ (.int .i64 (s2))
        have h14_42 := two_set h14_41 (s1) (s2)
        go_simp
        clear q0_42 f0_42 q1_42 f1_42
        generalize (X41.setCell ⟨g14, 0, none⟩ (.int .i64 (s1))).setCell ⟨g14, 1, none⟩ (.int .i64 (s2)) = X42 at *
        refine hK _ _ (hSG.out _ hB42) ?_
        clear hK K hB41 h15_41 h14_41
        (try simp only [Act.put, List.setIfInBounds_toArray, List.set_cons_zero, List.set_cons_succ])
        refine tr_last rfl (by rfl) (by kernel_rfl) (fun K hK => ?_)
        obtain ⟨u0_43, q0_43, f0_43⟩ := h15_42.get 0 (by omega)
        obtain ⟨u1_43, q1_43, f1_43⟩ := h15_42.get 1 (by omega)
        have hB43 := BC (BC hB42 g15 0 hg15 (.int .i64 (a1))) g15 1 hg15 (.int .i64 (a2))
        have h14_43 := h14_42.far (g' := g15) (by omega) (a1) (a2)
        have h15_43 := two_set h15_42 (a1) (a2)
        go_simp
        clear q0_43 f0_43 q1_43 f1_43
        generalize (X42.setCell ⟨g15, 0, none⟩ (.int .i64 (a1))).setCell ⟨g15, 1, none⟩ (.int .i64 (a2)) = X43 at *
        refine hK _ _ ?_
        clear hK K hB42 h14_42 h15_42
        (try simp only [Act.put, List.setIfInBounds_toArray, List.set_cons_zero, List.set_cons_succ])
        show Exit.then _ _ Exit.normal _ _
        go_wp2_with fail
        go_meet
        exact ⟨g14, g15, rfl, rfl, h14_43, h15_43, hB43⟩
    · skip
      refine tr_step rfl (by rfl) (fun K hK => ?_)
      have hB44 := BA hB0 (.cells #[.int .i64 0, .int .i64 0] 24)
      have h15_44 := slots_new2 X0 24
      have hg15 := hB0.size
      go_simp
      generalize X0.heap.size = g15 at *
      generalize X0.alloc (.cells #[.int .i64 0, .int .i64 0] 24) = X44 at *
      refine hK _ _ (hSG.out _ hB44) ?_
      clear hK K hB0 
      (try simp only [Act.put, List.setIfInBounds_toArray, List.set_cons_zero, List.set_cons_succ])
      refine ⟨?_, ?_⟩
      · skip
        refine tr_step rfl (by rfl) (fun K hK => ?_)
        go_simp
        refine (hU1.out X44 hB44).mono ?_
        rintro e X45 ⟨rfl, hb45⟩
        have hB45 := BT hB44 hb45
        have h15_45 := h15_44.below hb45 (h15_44.lt2)
        refine hK _ _ (hSG.out _ hB45) ?_
        clear hK K hB44 h15_44 hb45
        (try simp only [Act.put, List.setIfInBounds_toArray, List.set_cons_zero, List.set_cons_succ])
        refine ⟨?_, ?_⟩
        · skip
          refine tr_step rfl (by rfl) (fun K hK => ?_)
          go_simp
          refine (hU2.out X45 hB45).mono ?_
          rintro e X46 ⟨rfl, hb46⟩
          have hB46 := BT hB45 hb46
          have h15_46 := h15_45.below hb46 (h15_45.lt2)
          refine hK _ _ (hSG.out _ hB46) ?_
          clear hK K hB45 h15_45 hb46
          (try simp only [Act.put, List.setIfInBounds_toArray, List.set_cons_zero, List.set_cons_succ])
          refine tr_step rfl (by rfl) (fun K hK => ?_)
          have hB47 := BA hB46 (.cells #[.int .i64 0, .int .i64 0] 24)
          have h15_47 := h15_46.below (newB X46 (.cells #[.int .i64 0, .int .i64 0] 24)) (h15_46.lt2)
          have hlt15_47 := h15_46.lt2
          have h14_47 := slots_new2 X46 24
          have hg14 := hB46.size
          go_simp
          generalize X46.heap.size = g14 at *
          generalize X46.alloc (.cells #[.int .i64 0, .int .i64 0] 24) = X47 at *
          refine hK _ _ (hSG.out _ hB47) ?_
          clear hK K hB46 h15_46
          (try simp only [Act.put, List.setIfInBounds_toArray, List.set_cons_zero, List.set_cons_succ])
          refine tr_step rfl (by rfl) (fun K hK => ?_)
          obtain ⟨u0_48, q0_48, f0_48⟩ := h14_47.get 0 (by omega)
          obtain ⟨u1_48, q1_48, f1_48⟩ := h14_47.get 1 (by omega)
          have hB48 := BC (BC hB47 g14 0 hg14 (.int .i64 (s1))) g14 1 hg14 (.int .i64 (s2))
          have h15_48 := (h15_47.set ⟨g14, 0, none⟩ (.int .i64 (s1))).set ⟨g14, 1, none⟩ (.int .i64 (s2))
          have h14_48 := two_set h14_47 (s1) (s2)
          go_simp
          clear q0_48 f0_48 q1_48 f1_48
          generalize (X47.setCell ⟨g14, 0, none⟩ (.int .i64 (s1))).setCell ⟨g14, 1, none⟩ (.int .i64 (s2)) = X48 at *
          refine hK _ _ (hSG.out _ hB48) ?_
          clear hK K hB47 h15_47 h14_47
          (try simp only [Act.put, List.setIfInBounds_toArray, List.set_cons_zero, List.set_cons_succ])
          refine tr_last rfl (by rfl) (by kernel_rfl) (fun K hK => ?_)
          obtain ⟨u0_49, q0_49, f0_49⟩ := h15_48.get 0 (by omega)
          obtain ⟨u1_49, q1_49, f1_49⟩ := h15_48.get 1 (by omega)
          have hB49 := BC (BC hB48 g15 0 hg15 (.int .i64 (a1))) g15 1 hg15 (.int .i64 (a2))
          have h14_49 := h14_48.far (g' := g15) (by omega) (a1) (a2)
          have h15_49 := two_set h15_48 (a1) (a2)
          go_simp
          clear q0_49 f0_49 q1_49 f1_49
          generalize (X48.setCell ⟨g15, 0, none⟩ (.int .i64 (a1))).setCell ⟨g15, 1, none⟩ (.int .i64 (a2)) = X49 at *
          refine hK _ _ ?_
          clear hK K hB48 h14_48 h15_48
          (try simp only [Act.put, List.setIfInBounds_toArray, List.set_cons_zero, List.set_cons_succ])
          show Exit.then _ _ Exit.normal _ _
          go_wp2_with fail
          go_meet
          exact ⟨g14, g15, rfl, rfl, h14_49, h15_49, hB49⟩
        · skip
          refine tr_step rfl (by rfl) (fun K hK => ?_)
          have hB50 := BA hB45 (.cells #[.int .i64 0, .int .i64 0] 24)
          have h15_50 := h15_45.below (newB X45 (.cells #[.int .i64 0, .int .i64 0] 24)) (h15_45.lt2)
          have hlt15_50 := h15_45.lt2
          have h14_50 := slots_new2 X45 24
          have hg14 := hB45.size
          go_simp
          generalize X45.heap.size = g14 at *
          generalize X45.alloc (.cells #[.int .i64 0, .int .i64 0] 24) = X50 at *
          refine hK _ _ (hSG.out _ hB50) ?_
          clear hK K hB45 h15_45
          (try simp only [Act.put, List.setIfInBounds_toArray, List.set_cons_zero, List.set_cons_succ])
          refine tr_step rfl (by rfl) (fun K hK => ?_)
          go_simp
          refine (hU2.out X50 hB50).mono ?_
          rintro e X51 ⟨rfl, hb51⟩
          have hB51 := BT hB50 hb51
          have h15_51 := h15_50.below hb51 (h15_50.lt2)
          have h14_51 := h14_50.below hb51 (h14_50.lt2)
          refine hK _ _ (hSG.out _ hB51) ?_
          clear hK K hB50 h15_50 h14_50 hb51
          (try simp only [Act.put, List.setIfInBounds_toArray, List.set_cons_zero, List.set_cons_succ])
          refine tr_step rfl (by rfl) (fun K hK => ?_)
          obtain ⟨u0_52, q0_52, f0_52⟩ := h14_51.get 0 (by omega)
          obtain ⟨u1_52, q1_52, f1_52⟩ := h14_51.get 1 (by omega)
          have hB52 := BC (BC hB51 g14 0 hg14 (.int .i64 (s1))) g14 1 hg14 (.int .i64 (s2))
          have h15_52 := (h15_51.set ⟨g14, 0, none⟩ (.int .i64 (s1))).set ⟨g14, 1, none⟩ (.int .i64 (s2))
          have h14_52 := two_set h14_51 (s1) (s2)
          go_simp
          clear q0_52 f0_52 q1_52 f1_52
          generalize (X51.setCell ⟨g14, 0, none⟩ (.int .i64 (s1))).setCell ⟨g14, 1, none⟩ (.int .i64 (s2)) = X52 at *
          refine hK _ _ (hSG.out _ hB52) ?_
          clear hK K hB51 h15_51 h14_51
          (try simp only [Act.put, List.setIfInBounds_toArray, List.set_cons_zero, List.set_cons_succ])
          refine tr_last rfl (by rfl) (by kernel_rfl) (fun K hK => ?_)
          obtain ⟨u0_53, q0_53, f0_53⟩ := h15_52.get 0 (by omega)
          obtain ⟨u1_53, q1_53, f1_53⟩ := h15_52.get 1 (by omega)
          have hB53 := BC (BC hB52 g15 0 hg15 (.int .i64 (a1))) g15 1 hg15 (.int .i64 (a2))
          have h14_53 := h14_52.far (g' := g15) (by omega) (a1) (a2)
          have h15_53 := two_set h15_52 (a1) (a2)
          go_simp
          clear q0_53 f0_53 q1_53 f1_53
          generalize (X52.setCell ⟨g15, 0, none⟩ (.int .i64 (a1))).setCell ⟨g15, 1, none⟩ (.int .i64 (a2)) = X53 at *
          refine hK _ _ ?_
          clear hK K hB52 h14_52 h15_52
          (try simp only [Act.put, List.setIfInBounds_toArray, List.set_cons_zero, List.set_cons_succ])
          show Exit.then _ _ Exit.normal _ _
          go_wp2_with fail
          go_meet
          exact ⟨g14, g15, rfl, rfl, h14_53, h15_53, hB53⟩
      · skip
        refine tr_step rfl (by rfl) (fun K hK => ?_)
        have hB54 := BA hB44 (.cells #[.int .i64 0, .int .i64 0] 24)
        have h15_54 := h15_44.below (newB X44 (.cells #[.int .i64 0, .int .i64 0] 24)) (h15_44.lt2)
        have hlt15_54 := h15_44.lt2
        have h14_54 := slots_new2 X44 24
        have hg14 := hB44.size
        go_simp
        generalize X44.heap.size = g14 at *
        generalize X44.alloc (.cells #[.int .i64 0, .int .i64 0] 24) = X54 at *
        refine hK _ _ (hSG.out _ hB54) ?_
        clear hK K hB44 h15_44
        (try simp only [Act.put, List.setIfInBounds_toArray, List.set_cons_zero, List.set_cons_succ])
        refine tr_step rfl (by rfl) (fun K hK => ?_)
        go_simp
        refine (hU1.out X54 hB54).mono ?_
        rintro e X55 ⟨rfl, hb55⟩
        have hB55 := BT hB54 hb55
        have h15_55 := h15_54.below hb55 (h15_54.lt2)
        have h14_55 := h14_54.below hb55 (h14_54.lt2)
        refine hK _ _ (hSG.out _ hB55) ?_
        clear hK K hB54 h15_54 h14_54 hb55
        (try simp only [Act.put, List.setIfInBounds_toArray, List.set_cons_zero, List.set_cons_succ])
        refine tr_step rfl (by rfl) (fun K hK => ?_)
        go_simp
        refine (hU2.out X55 hB55).mono ?_
        rintro e X56 ⟨rfl, hb56⟩
        have hB56 := BT hB55 hb56
        have h15_56 := h15_55.below hb56 (h15_55.lt2)
        have h14_56 := h14_55.below hb56 (h14_55.lt2)
        refine hK _ _ (hSG.out _ hB56) ?_
        clear hK K hB55 h15_55 h14_55 hb56
        (try simp only [Act.put, List.setIfInBounds_toArray, List.set_cons_zero, List.set_cons_succ])
        refine tr_step rfl (by rfl) (fun K hK => ?_)
        obtain ⟨u0_57, q0_57, f0_57⟩ := h14_56.get 0 (by omega)
        obtain ⟨u1_57, q1_57, f1_57⟩ := h14_56.get 1 (by omega)
        have hB57 := BC (BC hB56 g14 0 hg14 (.int .i64 (s1))) g14 1 hg14 (.int .i64 (s2))
        have h15_57 := (h15_56.set ⟨g14, 0, none⟩ (.int .i64 (s1))).set ⟨g14, 1, none⟩ (.int .i64 (s2))
        have h14_57 := two_set h14_56 (s1) (s2)
        go_simp
        clear q0_57 f0_57 q1_57 f1_57
        generalize (X56.setCell ⟨g14, 0, none⟩ (.int .i64 (s1))).setCell ⟨g14, 1, none⟩ (.int .i64 (s2)) = X57 at *
        refine hK _ _ (hSG.out _ hB57) ?_
        clear hK K hB56 h15_56 h14_56
        (try simp only [Act.put, List.setIfInBounds_toArray, List.set_cons_zero, List.set_cons_succ])
        refine tr_last rfl (by rfl) (by kernel_rfl) (fun K hK => ?_)
        obtain ⟨u0_58, q0_58, f0_58⟩ := h15_57.get 0 (by omega)
        obtain ⟨u1_58, q1_58, f1_58⟩ := h15_57.get 1 (by omega)
        have hB58 := BC (BC hB57 g15 0 hg15 (.int .i64 (a1))) g15 1 hg15 (.int .i64 (a2))
        have h14_58 := h14_57.far (g' := g15) (by omega) (a1) (a2)
        have h15_58 := two_set h15_57 (a1) (a2)
        go_simp
        clear q0_58 f0_58 q1_58 f1_58
        generalize (X57.setCell ⟨g15, 0, none⟩ (.int .i64 (a1))).setCell ⟨g15, 1, none⟩ (.int .i64 (a2)) = X58 at *
        refine hK _ _ ?_
        clear hK K hB57 h14_57 h15_57
        (try simp only [Act.put, List.setIfInBounds_toArray, List.set_cons_zero, List.set_cons_succ])
        show Exit.then _ _ Exit.normal _ _
        go_wp2_with fail
        go_meet
        exact ⟨g14, g15, rfl, rfl, h14_58, h15_58, hB58⟩
  case rest =>
    obtain ⟨g5, g6, rfl, rfl, h5, h6, hb5⟩ := hcut
    have hW2 := BT hW0.out hb5
    have HC := Lib.hid (hC0.out.grown hb5)
    have HC' := Lib.hid (hC0'.out.grown hb5)
    obtain ⟨x0, x1⟩ := h5
    obtain ⟨y0, y1⟩ := h6
    clear hSG hU1 hU2 hB0 hC0 hC0' hb5 kw kw'
    generalize wc = w2 at *
    by_cases hq1 : s1 = a1
    case neg =>
      have HR : Hid (b = true) := HB.out.2 (.inl (fun e => hq1 (by injection e)))
      clear HB HR1 HR2
      go_wp2
      go_ret
      exact ⟨by rw [HR.out]; rfl, hW2⟩
    subst hq1
    by_cases hq2 : s2 = a2
    case neg =>
      have HR : Hid (b = true) := HB.out.2 (.inl (fun e => hq2 (by injection e)))
      clear HB HR1 HR2
      go_wp2
      go_ret
      exact ⟨by rw [HR.out]; rfl, hW2⟩
    subst hq2
    have HB2 : Hid (b = true ↔ ∃ n, (n = s1 ∨ n = s2) ∧ ∃ i : Nat, (i : Int) < h.images ∧ rp n i ≠ rq n i) := by
      show _ ↔ _
      rw [HB.out]
      exact ⟨fun h => h.resolve_left (fun e => e rfl), .inr⟩
    clear HB
    have hZ := newB w2 (.cells #[.int .i64 s1, .int .i64 s2] 3)
    go_wp2_with fail
    clear x0 x1 y0 y1
    have hZ2 := Lib.hid (show Two w2.heap.size s1 s2 (w2.alloc (.cells #[.int .i64 s1, .int .i64 s2] 3)) from two_newT w2 s1 s2 3)
    generalize w2.heap.size = gS at hZ2 ⊢
    generalize w2.alloc (.cells #[.int .i64 s1, .int .i64 s2] 3) = WL at *
    have hWL := BT hW2 hZ
    have HCL := Lib.hid (HC.out.grown hZ)
    have HCL' := Lib.hid (HC'.out.grown hZ)
    clear HC HC' hW2 hZ
    obtain ⟨E, hE⟩ : ∃ E : Nat → Int, ∀ j, E j = if j = 0 then s1 else s2 := ⟨_, fun _ => rfl⟩
    have HE0 : Hid (E 0 = s1) := hE 0
    have HE1 : Hid (E 1 = s2) := hE 1
    have HEE : Hid (∀ n, (n = s1 ∨ n = s2) → ∃ j, j < 2 ∧ n = E j) := fun n hn => by
      rcases hn with rfl | rfl
      · exact ⟨0, by omega, (hE 0).symm⟩
      · exact ⟨1, by omega, (hE 1).symm⟩
    have HEN : Hid (∀ j, E j = s1 ∨ E j = s2) := fun j => by rw [hE]; split; exact .inl rfl; exact .inr rfl
    clear hE
    go_loopw [39] (fun j wr => ∃ j' : Nat, j' ≤ 2 ∧ j = .int .i64 j' ∧ Below WL.heap.size WL wr ∧ Hid (∀ m, m < j' → ∀ i : Nat, (i : Int) < h.images → rp (E m) i = rq (E m) i)) (fun j _ => 2 - (intOf j).toNat)
    case atStart => exact ⟨0, by omega, rfl, Below.refl _ _, fun m hm => by omega⟩
    case round =>
      obtain ⟨j, hj, rfl, hB, HJ⟩ := hrel
      have hj0 : (0 : Int) ≤ (j : Int) := by omega
      have hBw := BT hWL hB
      by_cases hlt : j < 2
      · have hcell : wr.cell? ⟨gS, j, none⟩ = some (.int .i64 (E j)) := by
          have h01 : j = 0 ∨ j = 1 := by omega
          rcases h01 with rfl | rfl
          · rw [HE0.out]; exact cellB hZ2.out.1 hB
          · rw [HE1.out]; exact cellB hZ2.out.2 hB
        have HSW : Hid (∀ X, Below wr.heap.size wr X → X.cell? ⟨B, 0, none⟩ = some (.slice h.a h.n h.cap) ∧ X.cell? ⟨B, 1, none⟩ = some (.int .i64 h.eLo) ∧ X.cell? ⟨B, 2, none⟩ = some (.int .i64 h.eHi) ∧ X.cell? ⟨B, 3, none⟩ = some (.int .i64 h.images) ∧ X.cell? ⟨B, 4, none⟩ = some (.int .i64 h.sLo) ∧ X.cell? ⟨B, 5, none⟩ = some (.int .i64 h.sHi) ∧ X.cell? ⟨B, 6, none⟩ = some (.slice h.sa h.ns h.scap) ∧ X.cell? ⟨B + 1, 0, none⟩ = some (.slice h'.a h'.n h'.cap) ∧ X.cell? ⟨B + 1, 1, none⟩ = some (.int .i64 h'.eLo) ∧ X.cell? ⟨B + 1, 2, none⟩ = some (.int .i64 h'.eHi) ∧ X.cell? ⟨B + 1, 3, none⟩ = some (.int .i64 h'.images) ∧ X.cell? ⟨B + 1, 4, none⟩ = some (.int .i64 h'.sLo) ∧ X.cell? ⟨B + 1, 5, none⟩ = some (.int .i64 h'.sHi) ∧ X.cell? ⟨B + 1, 6, none⟩ = some (.slice h'.sa h'.ns h'.scap)) := fun X hX => by
          obtain ⟨d0, d1, d2, d3, d4, d5, d6⟩ := HCL.out.grown (BT hB hX)
          obtain ⟨e0, e1, e2, e3, e4, e5, e6⟩ := HCL'.out.grown (BT hB hX)
          exact ⟨d0, d1, d2, d3, d4, d5, d6, e0, e1, e2, e3, e4, e5, e6⟩
        have hB0 : Below wr.heap.size wr wr.drew := Below.drew (Below.refl _ _)
        go_upto_region 7 with fail
        clear hcell
        generalize hEj : E j = n at *
        have HNN := Lib.hid hEj
        clear hEj
        go_cut [9, 10] (fun a9 a10 X => ∃ g2 g3 : Nat, a9 = .pointer (some ⟨g2, 0, none⟩) ∧ a10 = .pointer (some ⟨g3, 0, none⟩) ∧ Box7 X g2 h ∧ Box7 X g3 h' ∧ g2 ≠ g3 ∧ wr.heap.size ≤ g2 ∧ wr.heap.size ≤ g3 ∧ Below wr.heap.size wr X)
        case first =>
          refine wp_region_tree (.read 0 (.read 1 (.two 2 (.one 3 (.one 4 (.one 5 (.leaf)))) 3 (.one 2 (.one 4 (.one 5 (.leaf))))))) (fun w' => w'.cell? ⟨B, 0, none⟩ = some (.slice h.a h.n h.cap) ∧ w'.cell? ⟨B, 1, none⟩ = some (.int .i64 h.eLo) ∧ w'.cell? ⟨B, 2, none⟩ = some (.int .i64 h.eHi) ∧ w'.cell? ⟨B, 3, none⟩ = some (.int .i64 h.images) ∧ w'.cell? ⟨B, 4, none⟩ = some (.int .i64 h.sLo) ∧ w'.cell? ⟨B, 5, none⟩ = some (.int .i64 h.sHi) ∧ w'.cell? ⟨B, 6, none⟩ = some (.slice h.sa h.ns h.scap) ∧ w'.cell? ⟨B + 1, 0, none⟩ = some (.slice h'.a h'.n h'.cap) ∧ w'.cell? ⟨B + 1, 1, none⟩ = some (.int .i64 h'.eLo) ∧ w'.cell? ⟨B + 1, 2, none⟩ = some (.int .i64 h'.eHi) ∧ w'.cell? ⟨B + 1, 3, none⟩ = some (.int .i64 h'.images) ∧ w'.cell? ⟨B + 1, 4, none⟩ = some (.int .i64 h'.sLo) ∧ w'.cell? ⟨B + 1, 5, none⟩ = some (.int .i64 h'.sHi) ∧ w'.cell? ⟨B + 1, 6, none⟩ = some (.slice h'.sa h'.ns h'.scap)) (by kernel_rfl) (by kernel_rfl) (fun _ _ d _ _ h => by cases d <;> exact h) (HSW.out _ hB0) ?_
          generalize wr.drew = X0 at *
          repeat (first | (refine tr_read rfl (by rfl) _ (fun w' hS => by (try dsimp only at hS); go_simp; (try with_reducible rfl)) ?_; (try simp only [Act.put, List.setIfInBounds_toArray, List.set_cons_zero, List.set_cons_succ])) | (refine tr_skip rfl (by rfl) ?_; (try simp only [Act.put, List.setIfInBounds_toArray, List.set_cons_zero, List.set_cons_succ])))
          refine ⟨?_, ?_⟩
          · skip
            refine tr_step rfl (by rfl) (fun K hK => ?_)
            have hB1 := BA hB0 (.cells #[.slice none 0 0, .int .i64 0, .int .i64 0, .int .i64 0, .int .i64 0, .int .i64 0, .slice none 0 0] 29)
            have h2_1 := slots_new7 X0 29
            have hg2 := hB0.size
            go_simp
            generalize X0.heap.size = g2 at *
            generalize X0.alloc (.cells #[.slice none 0 0, .int .i64 0, .int .i64 0, .int .i64 0, .int .i64 0, .int .i64 0, .slice none 0 0] 29) = X1 at *
            refine hK _ _ (HSW.out _ hB1) ?_
            clear hK K hB0 
            (try simp only [Act.put, List.setIfInBounds_toArray, List.set_cons_zero, List.set_cons_succ])
            refine tr_step rfl (by rfl) (fun K hK => ?_)
            have hB2 := BA hB1 (.cells #[.slice none 0 0, .int .i64 0, .int .i64 0, .int .i64 0, .int .i64 0, .int .i64 0, .slice none 0 0] 29)
            have h2_2 := h2_1.below (newB X1 (.cells #[.slice none 0 0, .int .i64 0, .int .i64 0, .int .i64 0, .int .i64 0, .int .i64 0, .slice none 0 0] 29)) (h2_1.lt7)
            have hlt2_2 := h2_1.lt7
            have h3_2 := slots_new7 X1 29
            have hg3 := hB1.size
            go_simp
            generalize X1.heap.size = g3 at *
            generalize X1.alloc (.cells #[.slice none 0 0, .int .i64 0, .int .i64 0, .int .i64 0, .int .i64 0, .int .i64 0, .slice none 0 0] 29) = X2 at *
            refine hK _ _ (HSW.out _ hB2) ?_
            clear hK K hB1 h2_1
            (try simp only [Act.put, List.setIfInBounds_toArray, List.set_cons_zero, List.set_cons_succ])
            refine tr_step rfl (by rfl) (fun K hK => ?_)
            obtain ⟨u0_3, q0_3, f0_3⟩ := h2_2.get 0 (by omega)
            obtain ⟨u1_3, q1_3, f1_3⟩ := h2_2.get 1 (by omega)
            obtain ⟨u2_3, q2_3, f2_3⟩ := h2_2.get 2 (by omega)
            obtain ⟨u3_3, q3_3, f3_3⟩ := h2_2.get 3 (by omega)
            obtain ⟨u4_3, q4_3, f4_3⟩ := h2_2.get 4 (by omega)
            obtain ⟨u5_3, q5_3, f5_3⟩ := h2_2.get 5 (by omega)
            obtain ⟨u6_3, q6_3, f6_3⟩ := h2_2.get 6 (by omega)
            have hB3 := (BC (BC (BC (BC (BC (BC (BC hB2 g2 0 hg2 (.slice h.a h.n h.cap)) g2 1 hg2 (.int .i64 h.eLo)) g2 2 hg2 (.int .i64 h.eHi)) g2 3 hg2 (.int .i64 h.images)) g2 4 hg2 (.int .i64 h.sLo)) g2 5 hg2 (.int .i64 h.sHi)) g2 6 hg2 (.slice h.sa h.ns h.scap))
            have h3_3 := h3_2.far7 (g' := g2) (by omega) h
            have h2_3 := box_put7 h2_2 h
            unfold put7 at *
            go_simp
            clear q0_3 f0_3 q1_3 f1_3 q2_3 f2_3 q3_3 f3_3 q4_3 f4_3 q5_3 f5_3 q6_3 f6_3
            generalize (((((((X2.setCell ⟨g2, 0, none⟩ (.slice h.a h.n h.cap)).setCell ⟨g2, 1, none⟩ (.int .i64 h.eLo)).setCell ⟨g2, 2, none⟩ (.int .i64 h.eHi)).setCell ⟨g2, 3, none⟩ (.int .i64 h.images)).setCell ⟨g2, 4, none⟩ (.int .i64 h.sLo)).setCell ⟨g2, 5, none⟩ (.int .i64 h.sHi)).setCell ⟨g2, 6, none⟩ (.slice h.sa h.ns h.scap)) = X3 at *
            refine hK _ _ (HSW.out _ hB3) ?_
            clear hK K hB2 h3_2 h2_2
            (try simp only [Act.put, List.setIfInBounds_toArray, List.set_cons_zero, List.set_cons_succ])
            refine tr_last rfl (by rfl) (by kernel_rfl) (fun K hK => ?_)
            obtain ⟨u0_4, q0_4, f0_4⟩ := h3_3.get 0 (by omega)
            obtain ⟨u1_4, q1_4, f1_4⟩ := h3_3.get 1 (by omega)
            obtain ⟨u2_4, q2_4, f2_4⟩ := h3_3.get 2 (by omega)
            obtain ⟨u3_4, q3_4, f3_4⟩ := h3_3.get 3 (by omega)
            obtain ⟨u4_4, q4_4, f4_4⟩ := h3_3.get 4 (by omega)
            obtain ⟨u5_4, q5_4, f5_4⟩ := h3_3.get 5 (by omega)
            obtain ⟨u6_4, q6_4, f6_4⟩ := h3_3.get 6 (by omega)
            have hB4 := (BC (BC (BC (BC (BC (BC (BC hB3 g3 0 hg3 (.slice h'.a h'.n h'.cap)) g3 1 hg3 (.int .i64 h'.eLo)) g3 2 hg3 (.int .i64 h'.eHi)) g3 3 hg3 (.int .i64 h'.images)) g3 4 hg3 (.int .i64 h'.sLo)) g3 5 hg3 (.int .i64 h'.sHi)) g3 6 hg3 (.slice h'.sa h'.ns h'.scap))
            have h2_4 := h2_3.far7 (g' := g3) (by omega) h'
            have h3_4 := box_put7 h3_3 h'
            unfold put7 at *
            go_simp
            clear q0_4 f0_4 q1_4 f1_4 q2_4 f2_4 q3_4 f3_4 q4_4 f4_4 q5_4 f5_4 q6_4 f6_4
            generalize (((((((X3.setCell ⟨g3, 0, none⟩ (.slice h'.a h'.n h'.cap)).setCell ⟨g3, 1, none⟩ (.int .i64 h'.eLo)).setCell ⟨g3, 2, none⟩ (.int .i64 h'.eHi)).setCell ⟨g3, 3, none⟩ (.int .i64 h'.images)).setCell ⟨g3, 4, none⟩ (.int .i64 h'.sLo)).setCell ⟨g3, 5, none⟩ (.int .i64 h'.sHi)).setCell ⟨g3, 6, none⟩ (.slice h'.sa h'.ns h'.scap)) = X4 at *
            refine hK _ _ ?_
            clear hK K hB3 h2_3 h3_3
            (try simp only [Act.put, List.setIfInBounds_toArray, List.set_cons_zero, List.set_cons_succ])
            show Exit.then _ _ Exit.normal _ _
            go_wp2_with fail
            go_meet
            exact ⟨g2, g3, rfl, rfl, h2_4, h3_4, by omega, hg2, hg3, hB4⟩
          · skip
            refine tr_step rfl (by rfl) (fun K hK => ?_)
            have hB5 := BA hB0 (.cells #[.slice none 0 0, .int .i64 0, .int .i64 0, .int .i64 0, .int .i64 0, .int .i64 0, .slice none 0 0] 29)
            have h3_5 := slots_new7 X0 29
            have hg3 := hB0.size
            go_simp
            generalize X0.heap.size = g3 at *
            generalize X0.alloc (.cells #[.slice none 0 0, .int .i64 0, .int .i64 0, .int .i64 0, .int .i64 0, .int .i64 0, .slice none 0 0] 29) = X5 at *
            refine hK _ _ (HSW.out _ hB5) ?_
            clear hK K hB0 
            (try simp only [Act.put, List.setIfInBounds_toArray, List.set_cons_zero, List.set_cons_succ])
            refine tr_step rfl (by rfl) (fun K hK => ?_)
            have hB6 := BA hB5 (.cells #[.slice none 0 0, .int .i64 0, .int .i64 0, .int .i64 0, .int .i64 0, .int .i64 0, .slice none 0 0] 29)
            have h3_6 := h3_5.below (newB X5 (.cells #[.slice none 0 0, .int .i64 0, .int .i64 0, .int .i64 0, .int .i64 0, .int .i64 0, .slice none 0 0] 29)) (h3_5.lt7)
            have hlt3_6 := h3_5.lt7
            have h2_6 := slots_new7 X5 29
            have hg2 := hB5.size
            go_simp
            generalize X5.heap.size = g2 at *
            generalize X5.alloc (.cells #[.slice none 0 0, .int .i64 0, .int .i64 0, .int .i64 0, .int .i64 0, .int .i64 0, .slice none 0 0] 29) = X6 at *
            refine hK _ _ (HSW.out _ hB6) ?_
            clear hK K hB5 h3_5
            (try simp only [Act.put, List.setIfInBounds_toArray, List.set_cons_zero, List.set_cons_succ])
            refine tr_step rfl (by rfl) (fun K hK => ?_)
            obtain ⟨u0_7, q0_7, f0_7⟩ := h2_6.get 0 (by omega)
            obtain ⟨u1_7, q1_7, f1_7⟩ := h2_6.get 1 (by omega)
            obtain ⟨u2_7, q2_7, f2_7⟩ := h2_6.get 2 (by omega)
            obtain ⟨u3_7, q3_7, f3_7⟩ := h2_6.get 3 (by omega)
            obtain ⟨u4_7, q4_7, f4_7⟩ := h2_6.get 4 (by omega)
            obtain ⟨u5_7, q5_7, f5_7⟩ := h2_6.get 5 (by omega)
            obtain ⟨u6_7, q6_7, f6_7⟩ := h2_6.get 6 (by omega)
            have hB7 := (BC (BC (BC (BC (BC (BC (BC hB6 g2 0 hg2 (.slice h.a h.n h.cap)) g2 1 hg2 (.int .i64 h.eLo)) g2 2 hg2 (.int .i64 h.eHi)) g2 3 hg2 (.int .i64 h.images)) g2 4 hg2 (.int .i64 h.sLo)) g2 5 hg2 (.int .i64 h.sHi)) g2 6 hg2 (.slice h.sa h.ns h.scap))
            have h3_7 := h3_6.far7 (g' := g2) (by omega) h
            have h2_7 := box_put7 h2_6 h
            unfold put7 at *
            go_simp
            clear q0_7 f0_7 q1_7 f1_7 q2_7 f2_7 q3_7 f3_7 q4_7 f4_7 q5_7 f5_7 q6_7 f6_7
            generalize (((((((X6.setCell ⟨g2, 0, none⟩ (.slice h.a h.n h.cap)).setCell ⟨g2, 1, none⟩ (.int .i64 h.eLo)).setCell ⟨g2, 2, none⟩ (.int .i64 h.eHi)).setCell ⟨g2, 3, none⟩ (.int .i64 h.images)).setCell ⟨g2, 4, none⟩ (.int .i64 h.sLo)).setCell ⟨g2, 5, none⟩ (.int .i64 h.sHi)).setCell ⟨g2, 6, none⟩ (.slice h.sa h.ns h.scap)) = X7 at *
            refine hK _ _ (HSW.out _ hB7) ?_
            clear hK K hB6 h3_6 h2_6
            (try simp only [Act.put, List.setIfInBounds_toArray, List.set_cons_zero, List.set_cons_succ])
            refine tr_last rfl (by rfl) (by kernel_rfl) (fun K hK => ?_)
            obtain ⟨u0_8, q0_8, f0_8⟩ := h3_7.get 0 (by omega)
            obtain ⟨u1_8, q1_8, f1_8⟩ := h3_7.get 1 (by omega)
            obtain ⟨u2_8, q2_8, f2_8⟩ := h3_7.get 2 (by omega)
            obtain ⟨u3_8, q3_8, f3_8⟩ := h3_7.get 3 (by omega)
            obtain ⟨u4_8, q4_8, f4_8⟩ := h3_7.get 4 (by omega)
            obtain ⟨u5_8, q5_8, f5_8⟩ := h3_7.get 5 (by omega)
            obtain ⟨u6_8, q6_8, f6_8⟩ := h3_7.get 6 (by omega)
            have hB8 := (BC (BC (BC (BC (BC (BC (BC hB7 g3 0 hg3 (.slice h'.a h'.n h'.cap)) g3 1 hg3 (.int .i64 h'.eLo)) g3 2 hg3 (.int .i64 h'.eHi)) g3 3 hg3 (.int .i64 h'.images)) g3 4 hg3 (.int .i64 h'.sLo)) g3 5 hg3 (.int .i64 h'.sHi)) g3 6 hg3 (.slice h'.sa h'.ns h'.scap))
            have h2_8 := h2_7.far7 (g' := g3) (by omega) h'
            have h3_8 := box_put7 h3_7 h'
            unfold put7 at *
            go_simp
            clear q0_8 f0_8 q1_8 f1_8 q2_8 f2_8 q3_8 f3_8 q4_8 f4_8 q5_8 f5_8 q6_8 f6_8
            generalize (((((((X7.setCell ⟨g3, 0, none⟩ (.slice h'.a h'.n h'.cap)).setCell ⟨g3, 1, none⟩ (.int .i64 h'.eLo)).setCell ⟨g3, 2, none⟩ (.int .i64 h'.eHi)).setCell ⟨g3, 3, none⟩ (.int .i64 h'.images)).setCell ⟨g3, 4, none⟩ (.int .i64 h'.sLo)).setCell ⟨g3, 5, none⟩ (.int .i64 h'.sHi)).setCell ⟨g3, 6, none⟩ (.slice h'.sa h'.ns h'.scap)) = X8 at *
            refine hK _ _ ?_
            clear hK K hB7 h2_7 h3_7
            (try simp only [Act.put, List.setIfInBounds_toArray, List.set_cons_zero, List.set_cons_succ])
            show Exit.then _ _ Exit.normal _ _
            go_wp2_with fail
            go_meet
            exact ⟨g2, g3, rfl, rfl, h2_8, h3_8, by omega, hg2, hg3, hB8⟩
        case rest =>
          obtain ⟨g9, g10, rfl, rfl, b9, b10, hne, hg9, hg10, hb3⟩ := hcut
          have HB9 := Lib.hid b9
          have HB10 := Lib.hid b10
          clear b9 b10 hB0
          generalize wc = w3 at *
          go_wp2_with fail
          refine (spanL_any _ _ _).mono ?_
          rintro e x1 ⟨rfl, hx1⟩
          go_wp2_with fail
          refine (spanL_any _ _ _).mono ?_
          rintro e x2 ⟨rfl, hx2⟩
          have hx12 := BT hx1 hx2
          have k9 := HB9.out.grown7 hx12
          have k10 := HB10.out.grown7 hx12
          have hbx := BT hb3 hx12
          obtain ⟨v4, p4, f4⟩ := k9.slots.get 4 (by omega)
          obtain ⟨v5, p5, f5⟩ := k9.slots.get 5 (by omega)
          obtain ⟨v6, p6, f6⟩ := k10.slots.get 4 (by omega)
          obtain ⟨v7, p7, f7⟩ := k10.slots.get 5 (by omega)
          have hK9 := Lib.hid ((k9.putN n).farN hne n)
          have hK10 := Lib.hid ((k10.farN (fun e => hne e.symm) n).putN n)
          have hBN : Below wr.heap.size wr (putN (putN x2 g9 n) g10 n) := BC (BC (BC (BC hbx g9 4 hg9 _) g9 5 hg9 _) g10 4 hg10 _) g10 5 hg10 _
          have hc3 := Lib.hid (HSW.out _ hBN)
          clear k9 k10 hbx hx1 hx2 hx12 HB9 HB10 hb3
          unfold putN at hK9 hK10 hBN hc3
          obtain ⟨d0, d1, d2, d3, d4, d5, d6, e0, e1, e2, e3, e4, e5, e6⟩ := hc3.out
          rw [HIM.out] at d3
          go_wp2_with fail
          clear p4 f4 p5 f5 p6 f6 p7 f7
          generalize (((x2.setCell ⟨g9, 4, none⟩ (.int .i64 n)).setCell ⟨g9, 5, none⟩ (.int .i64 n)).setCell ⟨g10, 4, none⟩ (.int .i64 n)).setCell ⟨g10, 5, none⟩ (.int .i64 n) = XN at *
          clear d0 d1 d2 d3 d4 d5 d6 e0 e1 e2 e3 e4 e5 e6 hc3
          obtain ⟨wo, rfl⟩ : ∃ wo : World, wo = wr := ⟨_, rfl⟩
          go_loopw [55] (fun i wr => ∃ i' : Nat, i' ≤ N ∧ i = .int .i64 i' ∧ Below XN.heap.size XN wr ∧ Hid (∀ m : Nat, m < i' → rp n m = rq n m)) (fun i _ => N - (intOf i).toNat)
          case atStart => exact ⟨0, by omega, rfl, Below.refl _ _, fun m hm => by omega⟩
          case round =>
            obtain ⟨i, hi, rfl, hBi, HI⟩ := hrel
            have hi0 : (0 : Int) ≤ (i : Int) := by omega
            have hi1 : (i : Int) ≤ 6 := by omega
            have hBo := BT hBN hBi
            by_cases hil : i < N
            · obtain ⟨l1, u1, c1, q1⟩ := HR1.out n i
              obtain ⟨l2, u2, c2, q2⟩ := HR2.out n i
              have hP1 : Hid (∀ Y, Below w.heap.size w Y → Calls Try.prog 20 #[.agg #[.slice h.a h.n h.cap, .int .i64 h.eLo, .int .i64 h.eHi, .int .i64 h.images, .int .i64 n, .int .i64 n, .slice h.sa h.ns h.scap], .int .i64 i] Y (Ret (.tuple #[.agg #[.int .i64 l1, .int .i64 u1], .int .i64 c1]) Y)) := fun Y hY => by
                have := HPL.out Y n i hY
                rw [q1] at this; exact this
              have hP2 : Hid (∀ Y, Below w.heap.size w Y → Calls Try.prog 20 #[.agg #[.slice h'.a h'.n h'.cap, .int .i64 h'.eLo, .int .i64 h'.eHi, .int .i64 h'.images, .int .i64 n, .int .i64 n, .slice h'.sa h'.ns h'.scap], .int .i64 i] Y (Ret (.tuple #[.agg #[.int .i64 l2, .int .i64 u2], .int .i64 c2]) Y)) := fun Y hY => by
                have := HPL'.out Y n i hY
                rw [q2] at this; exact this
              have Q1 := Lib.hid q1
              have Q2 := Lib.hid q2
              clear q1 q2
              obtain ⟨d0, d1, d2, d3, d4, d5, d6⟩ := (hK9.out.grown7 hBi).box
              unfold withN at d0 d1 d2 d3 d4 d5 d6
              dsimp only at d0 d1 d2 d3 d4 d5 d6
              go_wp2_with fail
              refine (hP1.out _ (BT hBw hBo)).mono ?_
              rintro e x3 ⟨rfl, hx3⟩
              have hA3 := BT hx3 (newB x3 (.cells #[.int .i64 l1, .int .i64 u1] 24))
              have hB3 := BT hBi hA3
              have hT3 := Lib.hid (show Two x3.heap.size l1 u1 (x3.alloc (.cells #[.int .i64 l1, .int .i64 u1] 24)) from two_newT x3 l1 u1 24)
              clear d0 d1 d2 d3 d4 d5 d6 hx3 hA3 hP1 hBo
              obtain ⟨d0, d1, d2, d3, d4, d5, d6⟩ := (hK10.out.grown7 hB3).box
              unfold withN at d0 d1 d2 d3 d4 d5 d6
              dsimp only at d0 d1 d2 d3 d4 d5 d6
              go_wp2_with fail
              generalize x3.heap.size = gp at *
              generalize x3.alloc (.cells #[.int .i64 l1, .int .i64 u1] 24) = Y3 at *
              refine (hP2.out _ (BT hBw (BT hBN hB3))).mono ?_
              rintro e x4 ⟨rfl, hx4⟩
              have hA4 := BT hx4 (newB x4 (.cells #[.int .i64 l2, .int .i64 u2] 24))
              have hB4 := BT hB3 hA4
              have hT4 := Lib.hid (hT3.out.grown hA4)
              have hT5 := Lib.hid (show Two x4.heap.size l2 u2 (x4.alloc (.cells #[.int .i64 l2, .int .i64 u2] 24)) from two_newT x4 l2 u2 24)
              clear d0 d1 d2 d3 d4 d5 d6 hx4 hA4 hP2 hT3 hB3
              have hBall := BT hBw (BT hBN hB4)
              obtain ⟨y0, y1⟩ := hT4.out
              obtain ⟨z0, z1⟩ := hT5.out
              have HDIF : Hid (¬ (l1 = l2 ∧ u1 = u2 ∧ c1 = c2) → b = true) := fun hd => HB2.out.2 ⟨n, by rw [← HNN.out]; exact HEN.out j, i, by rw [HIM.out]; omega, fun e => hd (by rw [Q1.out, Q2.out] at e; simpa [and_assoc] using e)⟩
              by_cases hl : l1 = l2
              case neg =>
                have HR : Hid (b = true) := HDIF.out (fun e => hl e.1)
                go_wp2
                go_ret
                exact ⟨by rw [HR.out]; rfl, hBall⟩
              subst hl
              by_cases hu : u1 = u2
              case neg =>
                have HR : Hid (b = true) := HDIF.out (fun e => hu e.2.1)
                go_wp2
                go_ret
                exact ⟨by rw [HR.out]; rfl, hBall⟩
              subst hu
              by_cases hc : c1 = c2
              case neg =>
                have HR : Hid (b = true) := HDIF.out (fun e => hc e.2.2)
                go_wp2
                go_ret
                exact ⟨by rw [HR.out]; rfl, hBall⟩
              subst hc
              go_wp2
              go_roundw
              case rel => exact ⟨i + 1, by omega, by go_num, hB4, fun m hm => by
                by_cases hmi : m = i
                · subst hmi; rw [Q1.out, Q2.out]
                · exact HI.out m (by omega)⟩
              case measure => simp [intOf]; omega
            · obtain rfl : i = N := by omega
              have hBJ := BT hB hBo
              go_wp2
              go_roundw
              case rel => exact ⟨j + 1, by omega, by go_num, hBJ, fun m hm i hi => by
                by_cases hmj : m = j
                · subst hmj
                  rw [HNN.out]
                  exact HI.out i (by have := HIM.out; omega)
                · exact HJ.out m (by omega) i hi⟩
              case measure => simp [intOf]; omega
      · obtain rfl : j = 2 := by omega
        have HR : Hid (b = false) := by
          show _ = _
          cases hb : b
          · rfl
          · obtain ⟨n, hn, i, hi, hne⟩ := HB2.out.1 hb
            obtain ⟨m, hm, rfl⟩ := HEE.out n hn
            exact absurd (HJ.out m hm i hi) hne
        go_wp2
        go_ret
        exact ⟨by rw [HR.out]; rfl, hBw⟩
end Go.Proofs.Ytmfbkgdlfackcaa
