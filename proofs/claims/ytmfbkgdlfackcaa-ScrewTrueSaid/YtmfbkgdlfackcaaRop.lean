/- The reference: all settings; whether an image is seen; its places with a sum; the sums, or the error. -/
import Derived.Test.YtmfbkgdlfackcaaRsu
import Derived.Test.YtmfbkgdlfackcaaRme
import Derived.Deep.DeepCutAuto
namespace Go.Proofs.Ytmfbkgdlfackcaa
open Fw Go.RowKit

def BoxC (X : World) (B : Nat) (h : Hd) : Prop := X.cell? ⟨B, 0, none⟩ = some (.slice h.a h.n h.cap) ∧ X.cell? ⟨B, 1, none⟩ = some (.int .i64 h.eLo) ∧ X.cell? ⟨B, 2, none⟩ = some (.int .i64 h.eHi) ∧ X.cell? ⟨B, 3, none⟩ = some (.int .i64 h.images) ∧ X.cell? ⟨B, 4, none⟩ = some (.int .i64 h.sLo) ∧ X.cell? ⟨B, 5, none⟩ = some (.int .i64 h.sHi) ∧ X.cell? ⟨B, 6, none⟩ = some (.slice h.sa h.ns h.scap)
theorem BoxC.grown {X X' : World} {B : Nat} {h : Hd} (k : BoxC X B h) (hb : Below X.heap.size X X') : BoxC X' B h := ⟨cellB k.1 hb, cellB k.2.1 hb, cellB k.2.2.1 hb, cellB k.2.2.2.1 hb, cellB k.2.2.2.2.1 hb, cellB k.2.2.2.2.2.1 hb, cellB k.2.2.2.2.2.2 hb⟩
theorem boxC_new (w : World) (h : Hd) : BoxC (w.alloc (.cells #[.slice h.a h.n h.cap, .int .i64 h.eLo, .int .i64 h.eHi, .int .i64 h.images, .int .i64 h.sLo, .int .i64 h.sHi, .slice h.sa h.ns h.scap] 29)) w.heap.size h := ⟨by simp [go_sem], by simp [go_sem], by simp [go_sem], by simp [go_sem], by simp [go_sem], by simp [go_sem], by simp [go_sem]⟩

set_option maxRecDepth 100000 in
theorem every_anyR (h : Hd) (w : World) (hn : h.ns ≤ 30) : Calls Try.prog 69 #[h.val] w (Ret (.int .i64 (2 ^ h.ns - 1)) w) := by
  have hp := Lib.hid (fun w => power_any h.ns hn w)
  obtain ⟨p0, p1⟩ := pow_le (Nat.le_refl h.ns) hn
  generalize (2 : Int) ^ h.ns = q at *
  have hn1 : h.ns ≤ 9223372036854775807 := by omega
  unfold Hd.val
  go_enter Try.func69, Try.ntmps69
  go_wp2_with fail
  refine (hp.out _).mono ?_
  rintro e w1 ⟨rfl, hb1⟩
  go_wp2
  go_ret
  exact ⟨rfl, by (repeat (first | assumption | exact Below.refl _ _ | refine BA ?_ _ | refine BC ?_ _ _ (by omega) _ | refine Below.drew ?_ | refine BT ?_ (by assumption)))⟩

set_option maxRecDepth 100000 in
set_option maxHeartbeats 2000000 in
theorem seen_anyR (h : Hd) (xs : List (Int × Int)) (ss : List Sett) (im : Int) (w : World) (hm : HasM w h xs ss) (hn : ss.length ≤ 100) : Calls Try.prog 67 #[h.val, .int .i64 im] w (Ret (.bool (hasC im (cntsOf ss))) w) := by
  have HC := Lib.hid (hasC_cnts im ss)
  generalize hasC im (cntsOf ss) = R at *
  have HM := Lib.hid hm
  have HNS := Lib.hid hm.ns
  rw [hm.ns] at hn
  have hs0 : (h.ns : Int) ≤ 100 := by omega
  have hs2 : h.ns ≤ 9223372036854775807 := by omega
  have hb0 := Lib.hid (boxC_new w h)
  have hB0 := newB w (.cells #[.slice h.a h.n h.cap, .int .i64 h.eLo, .int .i64 h.eHi, .int .i64 h.images, .int .i64 h.sLo, .int .i64 h.sHi, .slice h.sa h.ns h.scap] 29)
  clear hm
  unfold Hd.val
  go_enter Try.func67, Try.ntmps67
  go_wp2_with fail
  generalize w.heap.size = B at hb0 ⊢
  generalize w.alloc (.cells #[.slice h.a h.n h.cap, .int .i64 h.eLo, .int .i64 h.eHi, .int .i64 h.images, .int .i64 h.sLo, .int .i64 h.sHi, .slice h.sa h.ns h.scap] 29) = W at *
  go_loopw [5] (fun i wr => ∃ k : Nat, k ≤ h.ns ∧ i = .int .i64 k ∧ Below W.heap.size W wr ∧ Hid ((ss.take k).any (fun s => im == s.1) = false)) (fun i _ => h.ns - (intOf i).toNat)
  case atStart => exact ⟨0, by omega, rfl, Below.refl _ _, rfl⟩
  case round =>
    obtain ⟨k, hk, rfl, hB, hE⟩ := hrel
    obtain ⟨c0, c1, c2, c3, c4, c5, c6⟩ := hb0.out.grown hB
    have hBr := BT hB0 hB
    have hM := HM.out.below (Nat.le_refl _) hBr
    have hk0 : (0 : Int) ≤ (k : Int) := by omega
    by_cases hlt : k < h.ns
    · rcases hM.st with hnil | ⟨b, o, hsa, hb, hc⟩
      · exfalso; have := HNS.out; rw [hnil] at this; simp at this; omega
      · have hkl : k < ss.length := by rw [HNS.out]; exact hlt
        obtain ⟨d0, d1, d2, _⟩ := hc k hkl
        rw [hsa] at c6
        have e : ss.getD k (0, 0, false) = ss[k] := by simp [List.getD, hkl]
        have hmem : ss[k] ∈ ss := List.getElem_mem hkl
        have htk : Hid (∀ b, (im == ss[k].1) = b → (ss.take (k + 1)).any (fun s => im == s.1) = ((ss.take k).any (fun s => im == s.1) || b)) := fun b hb => by
          rw [List.take_succ_eq_append_getElem hkl, List.any_append]; simp [hb]
        have hany : Hid ((im == ss[k].1) = true → ss.any (fun s => im == s.1) = true) := fun hb => List.any_eq_true.2 ⟨_, hmem, hb⟩
        rw [e] at d0
        clear hc hsa e d1 d2 hmem hM
        generalize ss[k].1 = v at *
        by_cases hv : v = im
        · subst hv
          go_wp2
          go_ret
          exact ⟨by rw [HC.out, hany.out (by simp)]; rfl, hBr⟩
        · have h5 : (v == im) = false := by simpa using hv
          have h6 : Hid ((im == v) = false) := by show _ = _; simpa using fun e => hv e.symm
          go_wp2
          go_roundw
          case rel => exact ⟨k + 1, by omega, by go_num, hB, by show _ = _; rw [htk.out false h6.out, hE.out]; rfl⟩
          case measure => simp [intOf]; omega
    · obtain rfl : k = h.ns := by omega
      clear hM
      go_wp2
      go_ret
      exact ⟨by have := hE.out; rw [List.take_of_length_le (by rw [HNS.out]; omega)] at this; rw [HC.out, this]; rfl, hBr⟩

def placesS (ts : List Tell) (set im s : Int) : Int × Int := (mxI (toldTo ts set im false ts.length).1 (s - (toldTo ts set im true ts.length).2), mnI (toldTo ts set im false ts.length).2 (s - (toldTo ts set im true ts.length).1))

set_option maxRecDepth 100000 in
set_option maxHeartbeats 4000000 in
theorem places_anyR (h : Hd) (xs : List (Int × Int)) (ss : List Sett) (set im s : Int) (w : World) (hm : HasM w h xs ss) (hv : validH h xs ss = true) (hs : 0 ≤ set ∧ set ≤ 1000000) (hsr : -10000000 ≤ s ∧ s ≤ 10000000) :
    Calls Try.prog 68 #[h.val, .int .i64 set, .int .i64 im, .int .i64 s] w (Ret (.agg #[.int .i64 (placesS (tellsOf xs h.eLo h.eHi ss) set im s).1, .int .i64 (placesS (tellsOf xs h.eLo h.eHi ss) set im s).2]) w) := by
  have hfair := fair_of hv
  obtain ⟨⟨ra1, ra2⟩, ra3, ra4⟩ := told_rng hfair set im false _ (Nat.le_refl _)
  obtain ⟨⟨rb1, rb2⟩, rb3, rb4⟩ := told_rng hfair set im true _ (Nat.le_refl _)
  obtain ⟨hs0, hs1⟩ := hsr
  have HM := Lib.hid hm
  have HT : Hid (∀ Y rv, Below w.heap.size w Y → Calls Try.prog 88 #[.agg #[.slice h.a h.n h.cap, .int .i64 h.eLo, .int .i64 h.eHi, .int .i64 h.images, .int .i64 h.sLo, .int .i64 h.sHi, .slice h.sa h.ns h.scap], .int .i64 set, .int .i64 im, .bool rv] Y (Ret (.agg #[.int .i64 (toldTo (tellsOf xs h.eLo h.eHi ss) set im rv (tellsOf xs h.eLo h.eHi ss).length).1, .int .i64 (toldTo (tellsOf xs h.eLo h.eHi ss) set im rv (tellsOf xs h.eLo h.eHi ss).length).2]) Y)) := fun Y rv hY => by
    have := told_anyR h xs ss set im rv Y (HM.out.below (Nat.le_refl _) hY) hv hs
    rw [len_tellsOf]
    exact this
  have hT1 : Hid (∀ Y, Below w.heap.size w Y → Calls Try.prog 88 #[.agg #[.slice h.a h.n h.cap, .int .i64 h.eLo, .int .i64 h.eHi, .int .i64 h.images, .int .i64 h.sLo, .int .i64 h.sHi, .slice h.sa h.ns h.scap], .int .i64 set, .int .i64 im, .bool false] Y (Ret (.agg #[.int .i64 (toldTo (tellsOf xs h.eLo h.eHi ss) set im false (tellsOf xs h.eLo h.eHi ss).length).1, .int .i64 (toldTo (tellsOf xs h.eLo h.eHi ss) set im false (tellsOf xs h.eLo h.eHi ss).length).2]) Y)) := fun Y hY => HT.out Y false hY
  have hT2 : Hid (∀ Y, Below w.heap.size w Y → Calls Try.prog 88 #[.agg #[.slice h.a h.n h.cap, .int .i64 h.eLo, .int .i64 h.eHi, .int .i64 h.images, .int .i64 h.sLo, .int .i64 h.sHi, .slice h.sa h.ns h.scap], .int .i64 set, .int .i64 im, .bool true] Y (Ret (.agg #[.int .i64 (toldTo (tellsOf xs h.eLo h.eHi ss) set im true (tellsOf xs h.eLo h.eHi ss).length).1, .int .i64 (toldTo (tellsOf xs h.eLo h.eHi ss) set im true (tellsOf xs h.eLo h.eHi ss).length).2]) Y)) := fun Y hY => HT.out Y true hY
  unfold placesS
  clear hm hv HT hfair
  generalize toldTo (tellsOf xs h.eLo h.eHi ss) set im false (tellsOf xs h.eLo h.eHi ss).length = ta at *
  generalize toldTo (tellsOf xs h.eLo h.eHi ss) set im true (tellsOf xs h.eLo h.eHi ss).length = tb at *
  obtain ⟨a1, a2⟩ := ta
  obtain ⟨b1, b2⟩ := tb
  dsimp only at hT1 hT2 ra1 ra2 ra3 ra4 rb1 rb2 rb3 rb4 ⊢
  obtain ⟨ml, hml⟩ : ∃ m, mxI a1 (s - b2) = m := ⟨_, rfl⟩
  obtain ⟨mh, hmh⟩ : ∃ m, mnI a2 (s - b1) = m := ⟨_, rfl⟩
  rw [hml, hmh]
  have HML := Lib.hid hml; clear hml
  have HMH := Lib.hid hmh; clear hmh
  have hC0 : Hid (BoxC ((w.alloc (.cells #[.slice h.a h.n h.cap, .int .i64 h.eLo, .int .i64 h.eHi, .int .i64 h.images, .int .i64 h.sLo, .int .i64 h.sHi, .slice h.sa h.ns h.scap] 29)).alloc (.cells #[.int .i64 0, .int .i64 0] 24)) w.heap.size h) := (boxC_new w h).grown (newB _ _)
  have hS0 : Hid (Slots (w.heap.size + 1) 2 ((w.alloc (.cells #[.slice h.a h.n h.cap, .int .i64 h.eLo, .int .i64 h.eHi, .int .i64 h.images, .int .i64 h.sLo, .int .i64 h.sHi, .slice h.sa h.ns h.scap] 29)).alloc (.cells #[.int .i64 0, .int .i64 0] 24))) := by
    have := slots_new2 (w.alloc (.cells #[.slice h.a h.n h.cap, .int .i64 h.eLo, .int .i64 h.eHi, .int .i64 h.images, .int .i64 h.sLo, .int .i64 h.sHi, .slice h.sa h.ns h.scap] 29)) 24
    show Slots _ _ _
    simpa using this
  have hW0 : Hid (Below w.heap.size w ((w.alloc (.cells #[.slice h.a h.n h.cap, .int .i64 h.eLo, .int .i64 h.eHi, .int .i64 h.images, .int .i64 h.sLo, .int .i64 h.sHi, .slice h.sa h.ns h.scap] 29)).alloc (.cells #[.int .i64 0, .int .i64 0] 24))) := by
    show Below _ _ _
    (repeat (first | assumption | exact Below.refl _ _ | refine BA ?_ _ | refine BC ?_ _ _ (by omega) _ | refine Below.drew ?_ | refine BT ?_ (by assumption)))
  unfold Hd.val
  go_enter Try.func68, Try.ntmps68
  go_upto_region 1 with fail
  generalize hBw : w.heap.size = B at hC0 hS0 ⊢
  generalize (w.alloc (.cells #[.slice h.a h.n h.cap, .int .i64 h.eLo, .int .i64 h.eHi, .int .i64 h.images, .int .i64 h.sLo, .int .i64 h.sHi, .slice h.sa h.ns h.scap] 29)).alloc (.cells #[.int .i64 0, .int .i64 0] 24) = W at *
  have hwB : w.heap.size ≤ B := by omega
  clear hBw
  have hSG : Hid (∀ X, Below W.heap.size W X → BoxC X B h) := fun X hX => hC0.out.grown hX
  have hU1 : Hid (∀ Y, Below W.heap.size W Y → Calls Try.prog 88 #[.agg #[.slice h.a h.n h.cap, .int .i64 h.eLo, .int .i64 h.eHi, .int .i64 h.images, .int .i64 h.sLo, .int .i64 h.sHi, .slice h.sa h.ns h.scap], .int .i64 set, .int .i64 im, .bool false] Y (Ret (.agg #[.int .i64 a1, .int .i64 a2]) Y)) := fun Y hY => hT1.out Y (BT hW0.out hY)
  have hU2 : Hid (∀ Y, Below W.heap.size W Y → Calls Try.prog 88 #[.agg #[.slice h.a h.n h.cap, .int .i64 h.eLo, .int .i64 h.eHi, .int .i64 h.images, .int .i64 h.sLo, .int .i64 h.sHi, .slice h.sa h.ns h.scap], .int .i64 set, .int .i64 im, .bool true] Y (Ret (.agg #[.int .i64 b1, .int .i64 b2]) Y)) := fun Y hY => hT2.out Y (BT hW0.out hY)
  have hB0 : Below W.heap.size W W.drew := Below.drew (Below.refl _ _)
  clear hT1 hT2 HM
  go_cut [9, 10] (fun a9 a10 X => ∃ g8 g9 : Nat, a9 = .pointer (some ⟨g8, 0, none⟩) ∧ a10 = .pointer (some ⟨g9, 0, none⟩) ∧ Two g8 a1 a2 X ∧ Two g9 b1 b2 X ∧ Below W.heap.size W X)
  case first =>
    refine wp_region_tree (.read 0 (.read 1 (.read 2 (.read 4 (.read 5 (.read 6 (.three 3 (.three 7 (.two 8 (.one 9 (.one 10 (.one 11 (.leaf)))) 9 (.one 8 (.one 10 (.one 11 (.leaf))))) 8 (.two 7 (.one 9 (.one 10 (.one 11 (.leaf)))) 9 (.one 7 (.one 10 (.one 11 (.leaf))))) 9 (.two 7 (.one 8 (.one 10 (.one 11 (.leaf)))) 8 (.one 7 (.one 10 (.one 11 (.leaf)))))) 8 (.two 3 (.two 7 (.one 9 (.one 10 (.one 11 (.leaf)))) 9 (.one 7 (.one 10 (.one 11 (.leaf))))) 9 (.one 3 (.one 7 (.one 10 (.one 11 (.leaf)))))) 9 (.two 3 (.two 7 (.one 8 (.one 10 (.one 11 (.leaf)))) 8 (.one 7 (.one 10 (.one 11 (.leaf))))) 8 (.one 3 (.one 7 (.one 10 (.one 11 (.leaf))))))))))))) (fun w' => w'.cell? ⟨B, 0, none⟩ = some (.slice h.a h.n h.cap) ∧ w'.cell? ⟨B, 1, none⟩ = some (.int .i64 h.eLo) ∧ w'.cell? ⟨B, 2, none⟩ = some (.int .i64 h.eHi) ∧ w'.cell? ⟨B, 3, none⟩ = some (.int .i64 h.images) ∧ w'.cell? ⟨B, 4, none⟩ = some (.int .i64 h.sLo) ∧ w'.cell? ⟨B, 5, none⟩ = some (.int .i64 h.sHi) ∧ w'.cell? ⟨B, 6, none⟩ = some (.slice h.sa h.ns h.scap)) (by kernel_rfl) (by kernel_rfl) (fun _ _ d _ _ h => by cases d <;> exact h) (hSG.out _ hB0) ?_
    generalize W.drew = X0 at *
    repeat (first | (refine tr_read rfl (by rfl) _ (fun w' hS => by (try dsimp only at hS); go_simp; (try with_reducible rfl)) ?_; (try simp only [Act.put, List.setIfInBounds_toArray, List.set_cons_zero, List.set_cons_succ])) | (refine tr_skip rfl (by rfl) ?_; (try simp only [Act.put, List.setIfInBounds_toArray, List.set_cons_zero, List.set_cons_succ])))
    refine ⟨?_, ?_, ?_⟩
    · skip
      refine tr_step rfl (by rfl) (fun K hK => ?_)
      go_simp
      refine (hU1.out X0 hB0).mono ?_
      rintro e X1 ⟨rfl, hb1⟩
      have hB1 := BT hB0 hb1
      refine hK _ _ (hSG.out _ hB1) ?_
      clear hK K hB0 hb1
      (try simp only [Act.put, List.setIfInBounds_toArray, List.set_cons_zero, List.set_cons_succ])
      refine ⟨?_, ?_, ?_⟩
      · skip
        refine tr_step rfl (by rfl) (fun K hK => ?_)
        go_simp
        refine (hU2.out X1 hB1).mono ?_
        rintro e X2 ⟨rfl, hb2⟩
        have hB2 := BT hB1 hb2
        refine hK _ _ (hSG.out _ hB2) ?_
        clear hK K hB1 hb2
        (try simp only [Act.put, List.setIfInBounds_toArray, List.set_cons_zero, List.set_cons_succ])
        refine ⟨?_, ?_⟩
        · skip
          refine tr_step rfl (by rfl) (fun K hK => ?_)
          have hB3 := BA hB2 (.cells #[.int .i64 0, .int .i64 0] 24)
          have h8_3 := slots_new2 X2 24
          have hg8 := hB2.size
          go_simp
          generalize X2.heap.size = g8 at *
          generalize X2.alloc (.cells #[.int .i64 0, .int .i64 0] 24) = X3 at *
          refine hK _ _ (hSG.out _ hB3) ?_
          clear hK K hB2 
          (try simp only [Act.put, List.setIfInBounds_toArray, List.set_cons_zero, List.set_cons_succ])
          refine tr_step rfl (by rfl) (fun K hK => ?_)
          have hB4 := BA hB3 (.cells #[.int .i64 0, .int .i64 0] 24)
          have h8_4 := h8_3.below (newB X3 (.cells #[.int .i64 0, .int .i64 0] 24)) (h8_3.lt2)
          have hlt8_4 := h8_3.lt2
          have h9_4 := slots_new2 X3 24
          have hg9 := hB3.size
          go_simp
          generalize X3.heap.size = g9 at *
          generalize X3.alloc (.cells #[.int .i64 0, .int .i64 0] 24) = X4 at *
          refine hK _ _ (hSG.out _ hB4) ?_
          clear hK K hB3 h8_3
          (try simp only [Act.put, List.setIfInBounds_toArray, List.set_cons_zero, List.set_cons_succ])
          refine tr_step rfl (by rfl) (fun K hK => ?_)
          obtain ⟨u0_5, q0_5, f0_5⟩ := h8_4.get 0 (by omega)
          obtain ⟨u1_5, q1_5, f1_5⟩ := h8_4.get 1 (by omega)
          have hB5 := BC (BC hB4 g8 0 hg8 (.int .i64 (a1))) g8 1 hg8 (.int .i64 (a2))
          have h9_5 := (h9_4.set ⟨g8, 0, none⟩ (.int .i64 (a1))).set ⟨g8, 1, none⟩ (.int .i64 (a2))
          have h8_5 := two_set h8_4 (a1) (a2)
          go_simp
          clear q0_5 f0_5 q1_5 f1_5
          generalize (X4.setCell ⟨g8, 0, none⟩ (.int .i64 (a1))).setCell ⟨g8, 1, none⟩ (.int .i64 (a2)) = X5 at *
          refine hK _ _ (hSG.out _ hB5) ?_
          clear hK K hB4 h9_4 h8_4
          (try simp only [Act.put, List.setIfInBounds_toArray, List.set_cons_zero, List.set_cons_succ])
          refine tr_last rfl (by rfl) (by kernel_rfl) (fun K hK => ?_)
          obtain ⟨u0_6, q0_6, f0_6⟩ := h9_5.get 0 (by omega)
          obtain ⟨u1_6, q1_6, f1_6⟩ := h9_5.get 1 (by omega)
          have hB6 := BC (BC hB5 g9 0 hg9 (.int .i64 (b1))) g9 1 hg9 (.int .i64 (b2))
          have h8_6 := h8_5.far (g' := g9) (by omega) (b1) (b2)
          have h9_6 := two_set h9_5 (b1) (b2)
          go_simp
          clear q0_6 f0_6 q1_6 f1_6
          generalize (X5.setCell ⟨g9, 0, none⟩ (.int .i64 (b1))).setCell ⟨g9, 1, none⟩ (.int .i64 (b2)) = X6 at *
          refine hK _ _ ?_
          clear hK K hB5 h8_5 h9_5
          (try simp only [Act.put, List.setIfInBounds_toArray, List.set_cons_zero, List.set_cons_succ])
          show Exit.then _ _ Exit.normal _ _
          go_wp2_with fail
          go_meet
          exact ⟨g8, g9, rfl, rfl, h8_6, h9_6, hB6⟩
        · skip
          refine tr_step rfl (by rfl) (fun K hK => ?_)
          have hB7 := BA hB2 (.cells #[.int .i64 0, .int .i64 0] 24)
          have h9_7 := slots_new2 X2 24
          have hg9 := hB2.size
          go_simp
          generalize X2.heap.size = g9 at *
          generalize X2.alloc (.cells #[.int .i64 0, .int .i64 0] 24) = X7 at *
          refine hK _ _ (hSG.out _ hB7) ?_
          clear hK K hB2 
          (try simp only [Act.put, List.setIfInBounds_toArray, List.set_cons_zero, List.set_cons_succ])
          refine tr_step rfl (by rfl) (fun K hK => ?_)
          have hB8 := BA hB7 (.cells #[.int .i64 0, .int .i64 0] 24)
          have h9_8 := h9_7.below (newB X7 (.cells #[.int .i64 0, .int .i64 0] 24)) (h9_7.lt2)
          have hlt9_8 := h9_7.lt2
          have h8_8 := slots_new2 X7 24
          have hg8 := hB7.size
          go_simp
          generalize X7.heap.size = g8 at *
          generalize X7.alloc (.cells #[.int .i64 0, .int .i64 0] 24) = X8 at *
          refine hK _ _ (hSG.out _ hB8) ?_
          clear hK K hB7 h9_7
          (try simp only [Act.put, List.setIfInBounds_toArray, List.set_cons_zero, List.set_cons_succ])
          refine tr_step rfl (by rfl) (fun K hK => ?_)
          obtain ⟨u0_9, q0_9, f0_9⟩ := h8_8.get 0 (by omega)
          obtain ⟨u1_9, q1_9, f1_9⟩ := h8_8.get 1 (by omega)
          have hB9 := BC (BC hB8 g8 0 hg8 (.int .i64 (a1))) g8 1 hg8 (.int .i64 (a2))
          have h9_9 := (h9_8.set ⟨g8, 0, none⟩ (.int .i64 (a1))).set ⟨g8, 1, none⟩ (.int .i64 (a2))
          have h8_9 := two_set h8_8 (a1) (a2)
          go_simp
          clear q0_9 f0_9 q1_9 f1_9
          generalize (X8.setCell ⟨g8, 0, none⟩ (.int .i64 (a1))).setCell ⟨g8, 1, none⟩ (.int .i64 (a2)) = X9 at *
          refine hK _ _ (hSG.out _ hB9) ?_
          clear hK K hB8 h9_8 h8_8
          (try simp only [Act.put, List.setIfInBounds_toArray, List.set_cons_zero, List.set_cons_succ])
          refine tr_last rfl (by rfl) (by kernel_rfl) (fun K hK => ?_)
          obtain ⟨u0_10, q0_10, f0_10⟩ := h9_9.get 0 (by omega)
          obtain ⟨u1_10, q1_10, f1_10⟩ := h9_9.get 1 (by omega)
          have hB10 := BC (BC hB9 g9 0 hg9 (.int .i64 (b1))) g9 1 hg9 (.int .i64 (b2))
          have h8_10 := h8_9.far (g' := g9) (by omega) (b1) (b2)
          have h9_10 := two_set h9_9 (b1) (b2)
          go_simp
          clear q0_10 f0_10 q1_10 f1_10
          generalize (X9.setCell ⟨g9, 0, none⟩ (.int .i64 (b1))).setCell ⟨g9, 1, none⟩ (.int .i64 (b2)) = X10 at *
          refine hK _ _ ?_
          clear hK K hB9 h8_9 h9_9
          (try simp only [Act.put, List.setIfInBounds_toArray, List.set_cons_zero, List.set_cons_succ])
          show Exit.then _ _ Exit.normal _ _
          go_wp2_with fail
          go_meet
          exact ⟨g8, g9, rfl, rfl, h8_10, h9_10, hB10⟩
      · skip
        refine tr_step rfl (by rfl) (fun K hK => ?_)
        have hB11 := BA hB1 (.cells #[.int .i64 0, .int .i64 0] 24)
        have h8_11 := slots_new2 X1 24
        have hg8 := hB1.size
        go_simp
        generalize X1.heap.size = g8 at *
        generalize X1.alloc (.cells #[.int .i64 0, .int .i64 0] 24) = X11 at *
        refine hK _ _ (hSG.out _ hB11) ?_
        clear hK K hB1 
        (try simp only [Act.put, List.setIfInBounds_toArray, List.set_cons_zero, List.set_cons_succ])
        refine ⟨?_, ?_⟩
        · skip
          refine tr_step rfl (by rfl) (fun K hK => ?_)
          go_simp
          refine (hU2.out X11 hB11).mono ?_
          rintro e X12 ⟨rfl, hb12⟩
          have hB12 := BT hB11 hb12
          have h8_12 := h8_11.below hb12 (h8_11.lt2)
          refine hK _ _ (hSG.out _ hB12) ?_
          clear hK K hB11 h8_11 hb12
          (try simp only [Act.put, List.setIfInBounds_toArray, List.set_cons_zero, List.set_cons_succ])
          refine tr_step rfl (by rfl) (fun K hK => ?_)
          have hB13 := BA hB12 (.cells #[.int .i64 0, .int .i64 0] 24)
          have h8_13 := h8_12.below (newB X12 (.cells #[.int .i64 0, .int .i64 0] 24)) (h8_12.lt2)
          have hlt8_13 := h8_12.lt2
          have h9_13 := slots_new2 X12 24
          have hg9 := hB12.size
          go_simp
          generalize X12.heap.size = g9 at *
          generalize X12.alloc (.cells #[.int .i64 0, .int .i64 0] 24) = X13 at *
          refine hK _ _ (hSG.out _ hB13) ?_
          clear hK K hB12 h8_12
          (try simp only [Act.put, List.setIfInBounds_toArray, List.set_cons_zero, List.set_cons_succ])
          refine tr_step rfl (by rfl) (fun K hK => ?_)
          obtain ⟨u0_14, q0_14, f0_14⟩ := h8_13.get 0 (by omega)
          obtain ⟨u1_14, q1_14, f1_14⟩ := h8_13.get 1 (by omega)
          have hB14 := BC (BC hB13 g8 0 hg8 (.int .i64 (a1))) g8 1 hg8 (.int .i64 (a2))
          have h9_14 := (h9_13.set ⟨g8, 0, none⟩ (.int .i64 (a1))).set ⟨g8, 1, none⟩ (.int .i64 (a2))
          have h8_14 := two_set h8_13 (a1) (a2)
          go_simp
          clear q0_14 f0_14 q1_14 f1_14
          generalize (X13.setCell ⟨g8, 0, none⟩ (.int .i64 (a1))).setCell ⟨g8, 1, none⟩ (.int .i64 (a2)) = X14 at *
          refine hK _ _ (hSG.out _ hB14) ?_
          clear hK K hB13 h9_13 h8_13
          (try simp only [Act.put, List.setIfInBounds_toArray, List.set_cons_zero, List.set_cons_succ])
          refine tr_last rfl (by rfl) (by kernel_rfl) (fun K hK => ?_)
          obtain ⟨u0_15, q0_15, f0_15⟩ := h9_14.get 0 (by omega)
          obtain ⟨u1_15, q1_15, f1_15⟩ := h9_14.get 1 (by omega)
          have hB15 := BC (BC hB14 g9 0 hg9 (.int .i64 (b1))) g9 1 hg9 (.int .i64 (b2))
          have h8_15 := h8_14.far (g' := g9) (by omega) (b1) (b2)
          have h9_15 := two_set h9_14 (b1) (b2)
          go_simp
          clear q0_15 f0_15 q1_15 f1_15
          generalize (X14.setCell ⟨g9, 0, none⟩ (.int .i64 (b1))).setCell ⟨g9, 1, none⟩ (.int .i64 (b2)) = X15 at *
          refine hK _ _ ?_
          clear hK K hB14 h8_14 h9_14
          (try simp only [Act.put, List.setIfInBounds_toArray, List.set_cons_zero, List.set_cons_succ])
          show Exit.then _ _ Exit.normal _ _
          go_wp2_with fail
          go_meet
          exact ⟨g8, g9, rfl, rfl, h8_15, h9_15, hB15⟩
        · skip
          refine tr_step rfl (by rfl) (fun K hK => ?_)
          have hB16 := BA hB11 (.cells #[.int .i64 0, .int .i64 0] 24)
          have h8_16 := h8_11.below (newB X11 (.cells #[.int .i64 0, .int .i64 0] 24)) (h8_11.lt2)
          have hlt8_16 := h8_11.lt2
          have h9_16 := slots_new2 X11 24
          have hg9 := hB11.size
          go_simp
          generalize X11.heap.size = g9 at *
          generalize X11.alloc (.cells #[.int .i64 0, .int .i64 0] 24) = X16 at *
          refine hK _ _ (hSG.out _ hB16) ?_
          clear hK K hB11 h8_11
          (try simp only [Act.put, List.setIfInBounds_toArray, List.set_cons_zero, List.set_cons_succ])
          refine tr_step rfl (by rfl) (fun K hK => ?_)
          go_simp
          refine (hU2.out X16 hB16).mono ?_
          rintro e X17 ⟨rfl, hb17⟩
          have hB17 := BT hB16 hb17
          have h8_17 := h8_16.below hb17 (h8_16.lt2)
          have h9_17 := h9_16.below hb17 (h9_16.lt2)
          refine hK _ _ (hSG.out _ hB17) ?_
          clear hK K hB16 h8_16 h9_16 hb17
          (try simp only [Act.put, List.setIfInBounds_toArray, List.set_cons_zero, List.set_cons_succ])
          refine tr_step rfl (by rfl) (fun K hK => ?_)
          obtain ⟨u0_18, q0_18, f0_18⟩ := h8_17.get 0 (by omega)
          obtain ⟨u1_18, q1_18, f1_18⟩ := h8_17.get 1 (by omega)
          have hB18 := BC (BC hB17 g8 0 hg8 (.int .i64 (a1))) g8 1 hg8 (.int .i64 (a2))
          have h9_18 := (h9_17.set ⟨g8, 0, none⟩ (.int .i64 (a1))).set ⟨g8, 1, none⟩ (.int .i64 (a2))
          have h8_18 := two_set h8_17 (a1) (a2)
          go_simp
          clear q0_18 f0_18 q1_18 f1_18
          generalize (X17.setCell ⟨g8, 0, none⟩ (.int .i64 (a1))).setCell ⟨g8, 1, none⟩ (.int .i64 (a2)) = X18 at *
          refine hK _ _ (hSG.out _ hB18) ?_
          clear hK K hB17 h9_17 h8_17
          (try simp only [Act.put, List.setIfInBounds_toArray, List.set_cons_zero, List.set_cons_succ])
          refine tr_last rfl (by rfl) (by kernel_rfl) (fun K hK => ?_)
          obtain ⟨u0_19, q0_19, f0_19⟩ := h9_18.get 0 (by omega)
          obtain ⟨u1_19, q1_19, f1_19⟩ := h9_18.get 1 (by omega)
          have hB19 := BC (BC hB18 g9 0 hg9 (.int .i64 (b1))) g9 1 hg9 (.int .i64 (b2))
          have h8_19 := h8_18.far (g' := g9) (by omega) (b1) (b2)
          have h9_19 := two_set h9_18 (b1) (b2)
          go_simp
          clear q0_19 f0_19 q1_19 f1_19
          generalize (X18.setCell ⟨g9, 0, none⟩ (.int .i64 (b1))).setCell ⟨g9, 1, none⟩ (.int .i64 (b2)) = X19 at *
          refine hK _ _ ?_
          clear hK K hB18 h8_18 h9_18
          (try simp only [Act.put, List.setIfInBounds_toArray, List.set_cons_zero, List.set_cons_succ])
          show Exit.then _ _ Exit.normal _ _
          go_wp2_with fail
          go_meet
          exact ⟨g8, g9, rfl, rfl, h8_19, h9_19, hB19⟩
      · skip
        refine tr_step rfl (by rfl) (fun K hK => ?_)
        have hB20 := BA hB1 (.cells #[.int .i64 0, .int .i64 0] 24)
        have h9_20 := slots_new2 X1 24
        have hg9 := hB1.size
        go_simp
        generalize X1.heap.size = g9 at *
        generalize X1.alloc (.cells #[.int .i64 0, .int .i64 0] 24) = X20 at *
        refine hK _ _ (hSG.out _ hB20) ?_
        clear hK K hB1 
        (try simp only [Act.put, List.setIfInBounds_toArray, List.set_cons_zero, List.set_cons_succ])
        refine ⟨?_, ?_⟩
        · skip
          refine tr_step rfl (by rfl) (fun K hK => ?_)
          go_simp
          refine (hU2.out X20 hB20).mono ?_
          rintro e X21 ⟨rfl, hb21⟩
          have hB21 := BT hB20 hb21
          have h9_21 := h9_20.below hb21 (h9_20.lt2)
          refine hK _ _ (hSG.out _ hB21) ?_
          clear hK K hB20 h9_20 hb21
          (try simp only [Act.put, List.setIfInBounds_toArray, List.set_cons_zero, List.set_cons_succ])
          refine tr_step rfl (by rfl) (fun K hK => ?_)
          have hB22 := BA hB21 (.cells #[.int .i64 0, .int .i64 0] 24)
          have h9_22 := h9_21.below (newB X21 (.cells #[.int .i64 0, .int .i64 0] 24)) (h9_21.lt2)
          have hlt9_22 := h9_21.lt2
          have h8_22 := slots_new2 X21 24
          have hg8 := hB21.size
          go_simp
          generalize X21.heap.size = g8 at *
          generalize X21.alloc (.cells #[.int .i64 0, .int .i64 0] 24) = X22 at *
          refine hK _ _ (hSG.out _ hB22) ?_
          clear hK K hB21 h9_21
          (try simp only [Act.put, List.setIfInBounds_toArray, List.set_cons_zero, List.set_cons_succ])
          refine tr_step rfl (by rfl) (fun K hK => ?_)
          obtain ⟨u0_23, q0_23, f0_23⟩ := h8_22.get 0 (by omega)
          obtain ⟨u1_23, q1_23, f1_23⟩ := h8_22.get 1 (by omega)
          have hB23 := BC (BC hB22 g8 0 hg8 (.int .i64 (a1))) g8 1 hg8 (.int .i64 (a2))
          have h9_23 := (h9_22.set ⟨g8, 0, none⟩ (.int .i64 (a1))).set ⟨g8, 1, none⟩ (.int .i64 (a2))
          have h8_23 := two_set h8_22 (a1) (a2)
          go_simp
          clear q0_23 f0_23 q1_23 f1_23
          generalize (X22.setCell ⟨g8, 0, none⟩ (.int .i64 (a1))).setCell ⟨g8, 1, none⟩ (.int .i64 (a2)) = X23 at *
          refine hK _ _ (hSG.out _ hB23) ?_
          clear hK K hB22 h9_22 h8_22
          (try simp only [Act.put, List.setIfInBounds_toArray, List.set_cons_zero, List.set_cons_succ])
          refine tr_last rfl (by rfl) (by kernel_rfl) (fun K hK => ?_)
          obtain ⟨u0_24, q0_24, f0_24⟩ := h9_23.get 0 (by omega)
          obtain ⟨u1_24, q1_24, f1_24⟩ := h9_23.get 1 (by omega)
          have hB24 := BC (BC hB23 g9 0 hg9 (.int .i64 (b1))) g9 1 hg9 (.int .i64 (b2))
          have h8_24 := h8_23.far (g' := g9) (by omega) (b1) (b2)
          have h9_24 := two_set h9_23 (b1) (b2)
          go_simp
          clear q0_24 f0_24 q1_24 f1_24
          generalize (X23.setCell ⟨g9, 0, none⟩ (.int .i64 (b1))).setCell ⟨g9, 1, none⟩ (.int .i64 (b2)) = X24 at *
          refine hK _ _ ?_
          clear hK K hB23 h8_23 h9_23
          (try simp only [Act.put, List.setIfInBounds_toArray, List.set_cons_zero, List.set_cons_succ])
          show Exit.then _ _ Exit.normal _ _
          go_wp2_with fail
          go_meet
          exact ⟨g8, g9, rfl, rfl, h8_24, h9_24, hB24⟩
        · skip
          refine tr_step rfl (by rfl) (fun K hK => ?_)
          have hB25 := BA hB20 (.cells #[.int .i64 0, .int .i64 0] 24)
          have h9_25 := h9_20.below (newB X20 (.cells #[.int .i64 0, .int .i64 0] 24)) (h9_20.lt2)
          have hlt9_25 := h9_20.lt2
          have h8_25 := slots_new2 X20 24
          have hg8 := hB20.size
          go_simp
          generalize X20.heap.size = g8 at *
          generalize X20.alloc (.cells #[.int .i64 0, .int .i64 0] 24) = X25 at *
          refine hK _ _ (hSG.out _ hB25) ?_
          clear hK K hB20 h9_20
          (try simp only [Act.put, List.setIfInBounds_toArray, List.set_cons_zero, List.set_cons_succ])
          refine tr_step rfl (by rfl) (fun K hK => ?_)
          go_simp
          refine (hU2.out X25 hB25).mono ?_
          rintro e X26 ⟨rfl, hb26⟩
          have hB26 := BT hB25 hb26
          have h9_26 := h9_25.below hb26 (h9_25.lt2)
          have h8_26 := h8_25.below hb26 (h8_25.lt2)
          refine hK _ _ (hSG.out _ hB26) ?_
          clear hK K hB25 h9_25 h8_25 hb26
          (try simp only [Act.put, List.setIfInBounds_toArray, List.set_cons_zero, List.set_cons_succ])
          refine tr_step rfl (by rfl) (fun K hK => ?_)
          obtain ⟨u0_27, q0_27, f0_27⟩ := h8_26.get 0 (by omega)
          obtain ⟨u1_27, q1_27, f1_27⟩ := h8_26.get 1 (by omega)
          have hB27 := BC (BC hB26 g8 0 hg8 (.int .i64 (a1))) g8 1 hg8 (.int .i64 (a2))
          have h9_27 := (h9_26.set ⟨g8, 0, none⟩ (.int .i64 (a1))).set ⟨g8, 1, none⟩ (.int .i64 (a2))
          have h8_27 := two_set h8_26 (a1) (a2)
          go_simp
          clear q0_27 f0_27 q1_27 f1_27
          generalize (X26.setCell ⟨g8, 0, none⟩ (.int .i64 (a1))).setCell ⟨g8, 1, none⟩ (.int .i64 (a2)) = X27 at *
          refine hK _ _ (hSG.out _ hB27) ?_
          clear hK K hB26 h9_26 h8_26
          (try simp only [Act.put, List.setIfInBounds_toArray, List.set_cons_zero, List.set_cons_succ])
          refine tr_last rfl (by rfl) (by kernel_rfl) (fun K hK => ?_)
          obtain ⟨u0_28, q0_28, f0_28⟩ := h9_27.get 0 (by omega)
          obtain ⟨u1_28, q1_28, f1_28⟩ := h9_27.get 1 (by omega)
          have hB28 := BC (BC hB27 g9 0 hg9 (.int .i64 (b1))) g9 1 hg9 (.int .i64 (b2))
          have h8_28 := h8_27.far (g' := g9) (by omega) (b1) (b2)
          have h9_28 := two_set h9_27 (b1) (b2)
          go_simp
          clear q0_28 f0_28 q1_28 f1_28
          generalize (X27.setCell ⟨g9, 0, none⟩ (.int .i64 (b1))).setCell ⟨g9, 1, none⟩ (.int .i64 (b2)) = X28 at *
          refine hK _ _ ?_
          clear hK K hB27 h8_27 h9_27
          (try simp only [Act.put, List.setIfInBounds_toArray, List.set_cons_zero, List.set_cons_succ])
          show Exit.then _ _ Exit.normal _ _
          go_wp2_with fail
          go_meet
          exact ⟨g8, g9, rfl, rfl, h8_28, h9_28, hB28⟩
    · skip
      refine tr_step rfl (by rfl) (fun K hK => ?_)
      have hB29 := BA hB0 (.cells #[.int .i64 0, .int .i64 0] 24)
      have h8_29 := slots_new2 X0 24
      have hg8 := hB0.size
      go_simp
      generalize X0.heap.size = g8 at *
      generalize X0.alloc (.cells #[.int .i64 0, .int .i64 0] 24) = X29 at *
      refine hK _ _ (hSG.out _ hB29) ?_
      clear hK K hB0 
      (try simp only [Act.put, List.setIfInBounds_toArray, List.set_cons_zero, List.set_cons_succ])
      refine ⟨?_, ?_⟩
      · skip
        refine tr_step rfl (by rfl) (fun K hK => ?_)
        go_simp
        refine (hU1.out X29 hB29).mono ?_
        rintro e X30 ⟨rfl, hb30⟩
        have hB30 := BT hB29 hb30
        have h8_30 := h8_29.below hb30 (h8_29.lt2)
        refine hK _ _ (hSG.out _ hB30) ?_
        clear hK K hB29 h8_29 hb30
        (try simp only [Act.put, List.setIfInBounds_toArray, List.set_cons_zero, List.set_cons_succ])
        refine ⟨?_, ?_⟩
        · skip
          refine tr_step rfl (by rfl) (fun K hK => ?_)
          go_simp
          refine (hU2.out X30 hB30).mono ?_
          rintro e X31 ⟨rfl, hb31⟩
          have hB31 := BT hB30 hb31
          have h8_31 := h8_30.below hb31 (h8_30.lt2)
          refine hK _ _ (hSG.out _ hB31) ?_
          clear hK K hB30 h8_30 hb31
          (try simp only [Act.put, List.setIfInBounds_toArray, List.set_cons_zero, List.set_cons_succ])
          refine tr_step rfl (by rfl) (fun K hK => ?_)
          have hB32 := BA hB31 (.cells #[.int .i64 0, .int .i64 0] 24)
          have h8_32 := h8_31.below (newB X31 (.cells #[.int .i64 0, .int .i64 0] 24)) (h8_31.lt2)
          have hlt8_32 := h8_31.lt2
          have h9_32 := slots_new2 X31 24
          have hg9 := hB31.size
          go_simp
          generalize X31.heap.size = g9 at *
          generalize X31.alloc (.cells #[.int .i64 0, .int .i64 0] 24) = X32 at *
          refine hK _ _ (hSG.out _ hB32) ?_
          clear hK K hB31 h8_31
          (try simp only [Act.put, List.setIfInBounds_toArray, List.set_cons_zero, List.set_cons_succ])
          refine tr_step rfl (by rfl) (fun K hK => ?_)
          obtain ⟨u0_33, q0_33, f0_33⟩ := h8_32.get 0 (by omega)
          obtain ⟨u1_33, q1_33, f1_33⟩ := h8_32.get 1 (by omega)
          have hB33 := BC (BC hB32 g8 0 hg8 (.int .i64 (a1))) g8 1 hg8 (.int .i64 (a2))
          have h9_33 := (h9_32.set ⟨g8, 0, none⟩ (.int .i64 (a1))).set ⟨g8, 1, none⟩ (.int .i64 (a2))
          have h8_33 := two_set h8_32 (a1) (a2)
          go_simp
          clear q0_33 f0_33 q1_33 f1_33
          generalize (X32.setCell ⟨g8, 0, none⟩ (.int .i64 (a1))).setCell ⟨g8, 1, none⟩ (.int .i64 (a2)) = X33 at *
          refine hK _ _ (hSG.out _ hB33) ?_
          clear hK K hB32 h9_32 h8_32
          (try simp only [Act.put, List.setIfInBounds_toArray, List.set_cons_zero, List.set_cons_succ])
          refine tr_last rfl (by rfl) (by kernel_rfl) (fun K hK => ?_)
          obtain ⟨u0_34, q0_34, f0_34⟩ := h9_33.get 0 (by omega)
          obtain ⟨u1_34, q1_34, f1_34⟩ := h9_33.get 1 (by omega)
          have hB34 := BC (BC hB33 g9 0 hg9 (.int .i64 (b1))) g9 1 hg9 (.int .i64 (b2))
          have h8_34 := h8_33.far (g' := g9) (by omega) (b1) (b2)
          have h9_34 := two_set h9_33 (b1) (b2)
          go_simp
          clear q0_34 f0_34 q1_34 f1_34
          generalize (X33.setCell ⟨g9, 0, none⟩ (.int .i64 (b1))).setCell ⟨g9, 1, none⟩ (.int .i64 (b2)) = X34 at *
          refine hK _ _ ?_
          clear hK K hB33 h8_33 h9_33
          (try simp only [Act.put, List.setIfInBounds_toArray, List.set_cons_zero, List.set_cons_succ])
          show Exit.then _ _ Exit.normal _ _
          go_wp2_with fail
          go_meet
          exact ⟨g8, g9, rfl, rfl, h8_34, h9_34, hB34⟩
        · skip
          refine tr_step rfl (by rfl) (fun K hK => ?_)
          have hB35 := BA hB30 (.cells #[.int .i64 0, .int .i64 0] 24)
          have h8_35 := h8_30.below (newB X30 (.cells #[.int .i64 0, .int .i64 0] 24)) (h8_30.lt2)
          have hlt8_35 := h8_30.lt2
          have h9_35 := slots_new2 X30 24
          have hg9 := hB30.size
          go_simp
          generalize X30.heap.size = g9 at *
          generalize X30.alloc (.cells #[.int .i64 0, .int .i64 0] 24) = X35 at *
          refine hK _ _ (hSG.out _ hB35) ?_
          clear hK K hB30 h8_30
          (try simp only [Act.put, List.setIfInBounds_toArray, List.set_cons_zero, List.set_cons_succ])
          refine tr_step rfl (by rfl) (fun K hK => ?_)
          go_simp
          refine (hU2.out X35 hB35).mono ?_
          rintro e X36 ⟨rfl, hb36⟩
          have hB36 := BT hB35 hb36
          have h8_36 := h8_35.below hb36 (h8_35.lt2)
          have h9_36 := h9_35.below hb36 (h9_35.lt2)
          refine hK _ _ (hSG.out _ hB36) ?_
          clear hK K hB35 h8_35 h9_35 hb36
          (try simp only [Act.put, List.setIfInBounds_toArray, List.set_cons_zero, List.set_cons_succ])
          refine tr_step rfl (by rfl) (fun K hK => ?_)
          obtain ⟨u0_37, q0_37, f0_37⟩ := h8_36.get 0 (by omega)
          obtain ⟨u1_37, q1_37, f1_37⟩ := h8_36.get 1 (by omega)
          have hB37 := BC (BC hB36 g8 0 hg8 (.int .i64 (a1))) g8 1 hg8 (.int .i64 (a2))
          have h9_37 := (h9_36.set ⟨g8, 0, none⟩ (.int .i64 (a1))).set ⟨g8, 1, none⟩ (.int .i64 (a2))
          have h8_37 := two_set h8_36 (a1) (a2)
          go_simp
          clear q0_37 f0_37 q1_37 f1_37
          generalize (X36.setCell ⟨g8, 0, none⟩ (.int .i64 (a1))).setCell ⟨g8, 1, none⟩ (.int .i64 (a2)) = X37 at *
          refine hK _ _ (hSG.out _ hB37) ?_
          clear hK K hB36 h9_36 h8_36
          (try simp only [Act.put, List.setIfInBounds_toArray, List.set_cons_zero, List.set_cons_succ])
          refine tr_last rfl (by rfl) (by kernel_rfl) (fun K hK => ?_)
          obtain ⟨u0_38, q0_38, f0_38⟩ := h9_37.get 0 (by omega)
          obtain ⟨u1_38, q1_38, f1_38⟩ := h9_37.get 1 (by omega)
          have hB38 := BC (BC hB37 g9 0 hg9 (.int .i64 (b1))) g9 1 hg9 (.int .i64 (b2))
          have h8_38 := h8_37.far (g' := g9) (by omega) (b1) (b2)
          have h9_38 := two_set h9_37 (b1) (b2)
          go_simp
          clear q0_38 f0_38 q1_38 f1_38
          generalize (X37.setCell ⟨g9, 0, none⟩ (.int .i64 (b1))).setCell ⟨g9, 1, none⟩ (.int .i64 (b2)) = X38 at *
          refine hK _ _ ?_
          clear hK K hB37 h8_37 h9_37
          (try simp only [Act.put, List.setIfInBounds_toArray, List.set_cons_zero, List.set_cons_succ])
          show Exit.then _ _ Exit.normal _ _
          go_wp2_with fail
          go_meet
          exact ⟨g8, g9, rfl, rfl, h8_38, h9_38, hB38⟩
      · skip
        refine tr_step rfl (by rfl) (fun K hK => ?_)
        have hB39 := BA hB29 (.cells #[.int .i64 0, .int .i64 0] 24)
        have h8_39 := h8_29.below (newB X29 (.cells #[.int .i64 0, .int .i64 0] 24)) (h8_29.lt2)
        have hlt8_39 := h8_29.lt2
        have h9_39 := slots_new2 X29 24
        have hg9 := hB29.size
        go_simp
        generalize X29.heap.size = g9 at *
        generalize X29.alloc (.cells #[.int .i64 0, .int .i64 0] 24) = X39 at *
        refine hK _ _ (hSG.out _ hB39) ?_
        clear hK K hB29 h8_29
        (try simp only [Act.put, List.setIfInBounds_toArray, List.set_cons_zero, List.set_cons_succ])
        refine tr_step rfl (by rfl) (fun K hK => ?_)
        go_simp
        refine (hU1.out X39 hB39).mono ?_
        rintro e X40 ⟨rfl, hb40⟩
        have hB40 := BT hB39 hb40
        have h8_40 := h8_39.below hb40 (h8_39.lt2)
        have h9_40 := h9_39.below hb40 (h9_39.lt2)
        refine hK _ _ (hSG.out _ hB40) ?_
        clear hK K hB39 h8_39 h9_39 hb40
        (try simp only [Act.put, List.setIfInBounds_toArray, List.set_cons_zero, List.set_cons_succ])
        refine tr_step rfl (by rfl) (fun K hK => ?_)
        go_simp
        refine (hU2.out X40 hB40).mono ?_
        rintro e X41 ⟨rfl, hb41⟩
        have hB41 := BT hB40 hb41
        have h8_41 := h8_40.below hb41 (h8_40.lt2)
        have h9_41 := h9_40.below hb41 (h9_40.lt2)
        refine hK _ _ (hSG.out _ hB41) ?_
        clear hK K hB40 h8_40 h9_40 hb41
        (try simp only [Act.put, List.setIfInBounds_toArray, List.set_cons_zero, List.set_cons_succ])
        refine tr_step rfl (by rfl) (fun K hK => ?_)
        obtain ⟨u0_42, q0_42, f0_42⟩ := h8_41.get 0 (by omega)
        obtain ⟨u1_42, q1_42, f1_42⟩ := h8_41.get 1 (by omega)
        have hB42 := BC (BC hB41 g8 0 hg8 (.int .i64 (a1))) g8 1 hg8 (.int .i64 (a2))
        have h9_42 := (h9_41.set ⟨g8, 0, none⟩ (.int .i64 (a1))).set ⟨g8, 1, none⟩ (.int .i64 (a2))
        have h8_42 := two_set h8_41 (a1) (a2)
        go_simp
        clear q0_42 f0_42 q1_42 f1_42
        generalize (X41.setCell ⟨g8, 0, none⟩ (.int .i64 (a1))).setCell ⟨g8, 1, none⟩ (.int .i64 (a2)) = X42 at *
        refine hK _ _ (hSG.out _ hB42) ?_
        clear hK K hB41 h9_41 h8_41
        (try simp only [Act.put, List.setIfInBounds_toArray, List.set_cons_zero, List.set_cons_succ])
        refine tr_last rfl (by rfl) (by kernel_rfl) (fun K hK => ?_)
        obtain ⟨u0_43, q0_43, f0_43⟩ := h9_42.get 0 (by omega)
        obtain ⟨u1_43, q1_43, f1_43⟩ := h9_42.get 1 (by omega)
        have hB43 := BC (BC hB42 g9 0 hg9 (.int .i64 (b1))) g9 1 hg9 (.int .i64 (b2))
        have h8_43 := h8_42.far (g' := g9) (by omega) (b1) (b2)
        have h9_43 := two_set h9_42 (b1) (b2)
        go_simp
        clear q0_43 f0_43 q1_43 f1_43
        generalize (X42.setCell ⟨g9, 0, none⟩ (.int .i64 (b1))).setCell ⟨g9, 1, none⟩ (.int .i64 (b2)) = X43 at *
        refine hK _ _ ?_
        clear hK K hB42 h8_42 h9_42
        (try simp only [Act.put, List.setIfInBounds_toArray, List.set_cons_zero, List.set_cons_succ])
        show Exit.then _ _ Exit.normal _ _
        go_wp2_with fail
        go_meet
        exact ⟨g8, g9, rfl, rfl, h8_43, h9_43, hB43⟩
    · skip
      refine tr_step rfl (by rfl) (fun K hK => ?_)
      have hB44 := BA hB0 (.cells #[.int .i64 0, .int .i64 0] 24)
      have h9_44 := slots_new2 X0 24
      have hg9 := hB0.size
      go_simp
      generalize X0.heap.size = g9 at *
      generalize X0.alloc (.cells #[.int .i64 0, .int .i64 0] 24) = X44 at *
      refine hK _ _ (hSG.out _ hB44) ?_
      clear hK K hB0 
      (try simp only [Act.put, List.setIfInBounds_toArray, List.set_cons_zero, List.set_cons_succ])
      refine ⟨?_, ?_⟩
      · skip
        refine tr_step rfl (by rfl) (fun K hK => ?_)
        go_simp
        refine (hU1.out X44 hB44).mono ?_
        rintro e X45 ⟨rfl, hb45⟩
        have hB45 := BT hB44 hb45
        have h9_45 := h9_44.below hb45 (h9_44.lt2)
        refine hK _ _ (hSG.out _ hB45) ?_
        clear hK K hB44 h9_44 hb45
        (try simp only [Act.put, List.setIfInBounds_toArray, List.set_cons_zero, List.set_cons_succ])
        refine ⟨?_, ?_⟩
        · skip
          refine tr_step rfl (by rfl) (fun K hK => ?_)
          go_simp
          refine (hU2.out X45 hB45).mono ?_
          rintro e X46 ⟨rfl, hb46⟩
          have hB46 := BT hB45 hb46
          have h9_46 := h9_45.below hb46 (h9_45.lt2)
          refine hK _ _ (hSG.out _ hB46) ?_
          clear hK K hB45 h9_45 hb46
          (try simp only [Act.put, List.setIfInBounds_toArray, List.set_cons_zero, List.set_cons_succ])
          refine tr_step rfl (by rfl) (fun K hK => ?_)
          have hB47 := BA hB46 (.cells #[.int .i64 0, .int .i64 0] 24)
          have h9_47 := h9_46.below (newB X46 (.cells #[.int .i64 0, .int .i64 0] 24)) (h9_46.lt2)
          have hlt9_47 := h9_46.lt2
          have h8_47 := slots_new2 X46 24
          have hg8 := hB46.size
          go_simp
          generalize X46.heap.size = g8 at *
          generalize X46.alloc (.cells #[.int .i64 0, .int .i64 0] 24) = X47 at *
          refine hK _ _ (hSG.out _ hB47) ?_
          clear hK K hB46 h9_46
          (try simp only [Act.put, List.setIfInBounds_toArray, List.set_cons_zero, List.set_cons_succ])
          refine tr_step rfl (by rfl) (fun K hK => ?_)
          obtain ⟨u0_48, q0_48, f0_48⟩ := h8_47.get 0 (by omega)
          obtain ⟨u1_48, q1_48, f1_48⟩ := h8_47.get 1 (by omega)
          have hB48 := BC (BC hB47 g8 0 hg8 (.int .i64 (a1))) g8 1 hg8 (.int .i64 (a2))
          have h9_48 := (h9_47.set ⟨g8, 0, none⟩ (.int .i64 (a1))).set ⟨g8, 1, none⟩ (.int .i64 (a2))
          have h8_48 := two_set h8_47 (a1) (a2)
          go_simp
          clear q0_48 f0_48 q1_48 f1_48
          generalize (X47.setCell ⟨g8, 0, none⟩ (.int .i64 (a1))).setCell ⟨g8, 1, none⟩ (.int .i64 (a2)) = X48 at *
          refine hK _ _ (hSG.out _ hB48) ?_
          clear hK K hB47 h9_47 h8_47
          (try simp only [Act.put, List.setIfInBounds_toArray, List.set_cons_zero, List.set_cons_succ])
          refine tr_last rfl (by rfl) (by kernel_rfl) (fun K hK => ?_)
          obtain ⟨u0_49, q0_49, f0_49⟩ := h9_48.get 0 (by omega)
          obtain ⟨u1_49, q1_49, f1_49⟩ := h9_48.get 1 (by omega)
          have hB49 := BC (BC hB48 g9 0 hg9 (.int .i64 (b1))) g9 1 hg9 (.int .i64 (b2))
          have h8_49 := h8_48.far (g' := g9) (by omega) (b1) (b2)
          have h9_49 := two_set h9_48 (b1) (b2)
          go_simp
          clear q0_49 f0_49 q1_49 f1_49
          generalize (X48.setCell ⟨g9, 0, none⟩ (.int .i64 (b1))).setCell ⟨g9, 1, none⟩ (.int .i64 (b2)) = X49 at *
          refine hK _ _ ?_
          clear hK K hB48 h8_48 h9_48
          (try simp only [Act.put, List.setIfInBounds_toArray, List.set_cons_zero, List.set_cons_succ])
          show Exit.then _ _ Exit.normal _ _
          go_wp2_with fail
          go_meet
          exact ⟨g8, g9, rfl, rfl, h8_49, h9_49, hB49⟩
        · skip
          refine tr_step rfl (by rfl) (fun K hK => ?_)
          have hB50 := BA hB45 (.cells #[.int .i64 0, .int .i64 0] 24)
          have h9_50 := h9_45.below (newB X45 (.cells #[.int .i64 0, .int .i64 0] 24)) (h9_45.lt2)
          have hlt9_50 := h9_45.lt2
          have h8_50 := slots_new2 X45 24
          have hg8 := hB45.size
          go_simp
          generalize X45.heap.size = g8 at *
          generalize X45.alloc (.cells #[.int .i64 0, .int .i64 0] 24) = X50 at *
          refine hK _ _ (hSG.out _ hB50) ?_
          clear hK K hB45 h9_45
          (try simp only [Act.put, List.setIfInBounds_toArray, List.set_cons_zero, List.set_cons_succ])
          refine tr_step rfl (by rfl) (fun K hK => ?_)
          go_simp
          refine (hU2.out X50 hB50).mono ?_
          rintro e X51 ⟨rfl, hb51⟩
          have hB51 := BT hB50 hb51
          have h9_51 := h9_50.below hb51 (h9_50.lt2)
          have h8_51 := h8_50.below hb51 (h8_50.lt2)
          refine hK _ _ (hSG.out _ hB51) ?_
          clear hK K hB50 h9_50 h8_50 hb51
          (try simp only [Act.put, List.setIfInBounds_toArray, List.set_cons_zero, List.set_cons_succ])
          refine tr_step rfl (by rfl) (fun K hK => ?_)
          obtain ⟨u0_52, q0_52, f0_52⟩ := h8_51.get 0 (by omega)
          obtain ⟨u1_52, q1_52, f1_52⟩ := h8_51.get 1 (by omega)
          have hB52 := BC (BC hB51 g8 0 hg8 (.int .i64 (a1))) g8 1 hg8 (.int .i64 (a2))
          have h9_52 := (h9_51.set ⟨g8, 0, none⟩ (.int .i64 (a1))).set ⟨g8, 1, none⟩ (.int .i64 (a2))
          have h8_52 := two_set h8_51 (a1) (a2)
          go_simp
          clear q0_52 f0_52 q1_52 f1_52
          generalize (X51.setCell ⟨g8, 0, none⟩ (.int .i64 (a1))).setCell ⟨g8, 1, none⟩ (.int .i64 (a2)) = X52 at *
          refine hK _ _ (hSG.out _ hB52) ?_
          clear hK K hB51 h9_51 h8_51
          (try simp only [Act.put, List.setIfInBounds_toArray, List.set_cons_zero, List.set_cons_succ])
          refine tr_last rfl (by rfl) (by kernel_rfl) (fun K hK => ?_)
          obtain ⟨u0_53, q0_53, f0_53⟩ := h9_52.get 0 (by omega)
          obtain ⟨u1_53, q1_53, f1_53⟩ := h9_52.get 1 (by omega)
          have hB53 := BC (BC hB52 g9 0 hg9 (.int .i64 (b1))) g9 1 hg9 (.int .i64 (b2))
          have h8_53 := h8_52.far (g' := g9) (by omega) (b1) (b2)
          have h9_53 := two_set h9_52 (b1) (b2)
          go_simp
          clear q0_53 f0_53 q1_53 f1_53
          generalize (X52.setCell ⟨g9, 0, none⟩ (.int .i64 (b1))).setCell ⟨g9, 1, none⟩ (.int .i64 (b2)) = X53 at *
          refine hK _ _ ?_
          clear hK K hB52 h8_52 h9_52
          (try simp only [Act.put, List.setIfInBounds_toArray, List.set_cons_zero, List.set_cons_succ])
          show Exit.then _ _ Exit.normal _ _
          go_wp2_with fail
          go_meet
          exact ⟨g8, g9, rfl, rfl, h8_53, h9_53, hB53⟩
      · skip
        refine tr_step rfl (by rfl) (fun K hK => ?_)
        have hB54 := BA hB44 (.cells #[.int .i64 0, .int .i64 0] 24)
        have h9_54 := h9_44.below (newB X44 (.cells #[.int .i64 0, .int .i64 0] 24)) (h9_44.lt2)
        have hlt9_54 := h9_44.lt2
        have h8_54 := slots_new2 X44 24
        have hg8 := hB44.size
        go_simp
        generalize X44.heap.size = g8 at *
        generalize X44.alloc (.cells #[.int .i64 0, .int .i64 0] 24) = X54 at *
        refine hK _ _ (hSG.out _ hB54) ?_
        clear hK K hB44 h9_44
        (try simp only [Act.put, List.setIfInBounds_toArray, List.set_cons_zero, List.set_cons_succ])
        refine tr_step rfl (by rfl) (fun K hK => ?_)
        go_simp
        refine (hU1.out X54 hB54).mono ?_
        rintro e X55 ⟨rfl, hb55⟩
        have hB55 := BT hB54 hb55
        have h9_55 := h9_54.below hb55 (h9_54.lt2)
        have h8_55 := h8_54.below hb55 (h8_54.lt2)
        refine hK _ _ (hSG.out _ hB55) ?_
        clear hK K hB54 h9_54 h8_54 hb55
        (try simp only [Act.put, List.setIfInBounds_toArray, List.set_cons_zero, List.set_cons_succ])
        refine tr_step rfl (by rfl) (fun K hK => ?_)
        go_simp
        refine (hU2.out X55 hB55).mono ?_
        rintro e X56 ⟨rfl, hb56⟩
        have hB56 := BT hB55 hb56
        have h9_56 := h9_55.below hb56 (h9_55.lt2)
        have h8_56 := h8_55.below hb56 (h8_55.lt2)
        refine hK _ _ (hSG.out _ hB56) ?_
        clear hK K hB55 h9_55 h8_55 hb56
        (try simp only [Act.put, List.setIfInBounds_toArray, List.set_cons_zero, List.set_cons_succ])
        refine tr_step rfl (by rfl) (fun K hK => ?_)
        obtain ⟨u0_57, q0_57, f0_57⟩ := h8_56.get 0 (by omega)
        obtain ⟨u1_57, q1_57, f1_57⟩ := h8_56.get 1 (by omega)
        have hB57 := BC (BC hB56 g8 0 hg8 (.int .i64 (a1))) g8 1 hg8 (.int .i64 (a2))
        have h9_57 := (h9_56.set ⟨g8, 0, none⟩ (.int .i64 (a1))).set ⟨g8, 1, none⟩ (.int .i64 (a2))
        have h8_57 := two_set h8_56 (a1) (a2)
        go_simp
        clear q0_57 f0_57 q1_57 f1_57
        generalize (X56.setCell ⟨g8, 0, none⟩ (.int .i64 (a1))).setCell ⟨g8, 1, none⟩ (.int .i64 (a2)) = X57 at *
        refine hK _ _ (hSG.out _ hB57) ?_
        clear hK K hB56 h9_56 h8_56
        (try simp only [Act.put, List.setIfInBounds_toArray, List.set_cons_zero, List.set_cons_succ])
        refine tr_last rfl (by rfl) (by kernel_rfl) (fun K hK => ?_)
        obtain ⟨u0_58, q0_58, f0_58⟩ := h9_57.get 0 (by omega)
        obtain ⟨u1_58, q1_58, f1_58⟩ := h9_57.get 1 (by omega)
        have hB58 := BC (BC hB57 g9 0 hg9 (.int .i64 (b1))) g9 1 hg9 (.int .i64 (b2))
        have h8_58 := h8_57.far (g' := g9) (by omega) (b1) (b2)
        have h9_58 := two_set h9_57 (b1) (b2)
        go_simp
        clear q0_58 f0_58 q1_58 f1_58
        generalize (X57.setCell ⟨g9, 0, none⟩ (.int .i64 (b1))).setCell ⟨g9, 1, none⟩ (.int .i64 (b2)) = X58 at *
        refine hK _ _ ?_
        clear hK K hB57 h8_57 h9_57
        (try simp only [Act.put, List.setIfInBounds_toArray, List.set_cons_zero, List.set_cons_succ])
        show Exit.then _ _ Exit.normal _ _
        go_wp2_with fail
        go_meet
        exact ⟨g8, g9, rfl, rfl, h8_58, h9_58, hB58⟩
  case rest =>
    obtain ⟨g8, g9, rfl, rfl, h8, h9, hb⟩ := hcut
    have hB1 := BT hW0.out hb
    have hS1 := hS0.out.below hb hS0.out.lt2
    obtain ⟨e0, e1⟩ := h8
    obtain ⟨e2, e3⟩ := h9
    obtain ⟨v0, u0, y0⟩ := hS1.get 0 (by omega)
    obtain ⟨v1, u1, y1⟩ := hS1.get 1 (by omega)
    have hwB1 : w.heap.size ≤ B + 1 := by omega
    clear hSG hU1 hU2 hB0 hb hC0 hS0 hW0 hS1
    have k1 : (if a1 < s - b2 then s - b2 else a1) = ml := HML.out
    have k2 : (if s - b1 < a2 then s - b1 else a2) = mh := HMH.out
    go_wp2
    exact bodyPost_ret (v := .agg #[.int .i64 ml, .int .i64 mh]) (by simp [results, Try.results68, go_sem, u0, u1]) rfl ⟨rfl, by (repeat (first | assumption | exact Below.refl _ _ | refine BA ?_ _ | refine BC ?_ _ _ (by omega) _ | refine Below.drew ?_ | refine BT ?_ (by assumption)))⟩
end Go.Proofs.Ytmfbkgdlfackcaa
