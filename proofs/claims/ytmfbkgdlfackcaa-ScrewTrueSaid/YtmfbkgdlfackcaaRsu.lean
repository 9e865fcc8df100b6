/- The reference: the sums with which the settings of a set can all be right. -/
import Derived.Test.YtmfbkgdlfackcaaMtr
import Derived.Deep.CutRange
namespace Go.Proofs.Ytmfbkgdlfackcaa
open Fw Go.RowKit

theorem told_rng {ts : List Tell} (hf : ∀ t ∈ ts, Fair 131072 t) (set im : Int) (rv : Bool) : ∀ k, k ≤ ts.length →
    (-1099511627776 ≤ (toldTo ts set im rv k).1 ∧ (toldTo ts set im rv k).1 ≤ 131072) ∧ -131072 ≤ (toldTo ts set im rv k).2 ∧ (toldTo ts set im rv k).2 ≤ 1099511627776
  | 0, _ => by simp [toldTo]
  | k + 1, hk => by
    obtain ⟨⟨a, b⟩, c, d⟩ := told_rng hf set im rv k (by omega)
    have hm : ts.getD k dfl ∈ ts := by simp [List.getD, show k < ts.length by omega]
    obtain ⟨_, ⟨e, f⟩, g, i⟩ := hf _ hm
    rw [toldTo]
    split
    · unfold mxI mnI
      dsimp only
      constructor
      · split <;> omega
      · split <;> omega
    · exact ⟨⟨a, b⟩, c, d⟩
def sumsTo (ts : List Tell) (set sLo sHi : Int) : Nat → Option (Int × Int)
  | 0 => some (sLo, sHi)
  | k + 1 => match sumsTo ts set sLo sHi k with
    | none => none
    | some o => if (decide ((toldTo ts set k false ts.length).1 > (toldTo ts set k false ts.length).2) || decide ((toldTo ts set k true ts.length).1 > (toldTo ts set k true ts.length).2)) = true then none
      else some (mxI o.1 ((toldTo ts set k false ts.length).1 + (toldTo ts set k true ts.length).1), mnI o.2 ((toldTo ts set k false ts.length).2 + (toldTo ts set k true ts.length).2))
theorem sumsTo_none {ts : List Tell} {set sLo sHi : Int} {k : Nat} (h : sumsTo ts set sLo sHi k = none) : ∀ n, k ≤ n → sumsTo ts set sLo sHi n = none
  | 0, hn => by have : k = 0 := by omega
                subst this; exact h
  | n + 1, hn => by
    by_cases e : k = n + 1
    · subst e; exact h
    · rw [sumsTo, sumsTo_none h n (by omega)]
theorem sumsTo_rng {ts : List Tell} (hf : ∀ t ∈ ts, Fair 131072 t) {set sLo sHi : Int} (hs : (0 ≤ sLo ∧ sLo ≤ 131072) ∧ 0 ≤ sHi ∧ sHi ≤ 131072) : ∀ k o, sumsTo ts set sLo sHi k = some o → (0 ≤ o.1 ∧ o.1 ≤ 1000000) ∧ -1000000 ≤ o.2 ∧ o.2 ≤ 131072
  | 0, o, h => by simp [sumsTo] at h; subst h; dsimp only; omega
  | k + 1, o, h => by
    rw [sumsTo] at h
    cases hk : sumsTo ts set sLo sHi k with
    | none => rw [hk] at h; cases h
    | some p =>
      rw [hk] at h
      dsimp only at h
      have hp := sumsTo_rng hf hs k p hk
      have r1 := told_rng hf set k false ts.length (Nat.le_refl _)
      have r2 := told_rng hf set k true ts.length (Nat.le_refl _)
      split at h
      · cases h
      · rename_i hc
        simp only [Bool.or_eq_true, decide_eq_true_eq, not_or] at hc
        injection h with h
        subst h
        unfold mxI mnI
        dsimp only
        constructor
        · split <;> omega
        · split <;> omega
def sumsS (h : Hd) (xs : List (Int × Int)) (ss : List Sett) (set : Int) : Int × Int := (sumsTo (tellsOf xs h.eLo h.eHi ss) set h.sLo h.sHi h.images.toNat).getD (1, 0)

set_option maxRecDepth 100000 in
set_option maxHeartbeats 4000000 in
theorem sums_anyR (h : Hd) (xs : List (Int × Int)) (ss : List Sett) (set : Int) (w : World) (hm : HasM w h xs ss) (hv : validH h xs ss = true) (hs : 0 ≤ set ∧ set ≤ 1000000) :
    Calls Try.prog 46 #[h.val, .int .i64 set] w (Ret (.agg #[.int .i64 (sumsS h xs ss set).1, .int .i64 (sumsS h xs ss set).2]) w) := by
  obtain ⟨va, vb, vc, vd, ve, vf, vg⟩ := valid_has hv
  have hfair := fair_of hv
  have HM := Lib.hid hm
  have hT0 : Hid (Td w (((w.alloc (.cells #[.slice h.a h.n h.cap, .int .i64 h.eLo, .int .i64 h.eHi, .int .i64 h.images, .int .i64 h.sLo, .int .i64 h.sHi, .slice h.sa h.ns h.scap] 29)).alloc (.cells #[.int .i64 0, .int .i64 0] 24)).alloc (.cells #[.int .i64 h.sLo, .int .i64 h.sHi] 24)) w.heap.size h h.sLo h.sHi) := by
    refine ⟨by simp [go_sem], by simp [go_sem], by simp [go_sem], by simp [go_sem], by simp [go_sem], by simp [go_sem], by simp [go_sem], by (repeat (first | assumption | exact Below.refl _ _ | refine BA ?_ _ | refine BC ?_ _ _ (by omega) _ | refine Below.drew ?_ | refine BT ?_ (by assumption))), ?_, by simp [go_sem], by simp [go_sem], by simp [go_sem], by simp [go_sem], Nat.le_refl _⟩
    intro o ho
    have : o = 0 ∨ o = 1 := by omega
    rcases this with rfl | rfl <;> simp [go_sem]
  obtain ⟨N, hN⟩ : ∃ N : Nat, h.images = (N : Int) := ⟨h.images.toNat, by omega⟩
  have hN6 : N ≤ 6 := by omega
  have HT : Hid (∀ Y k rv, Below w.heap.size w Y → k < N → Calls Try.prog 88 #[.agg #[.slice h.a h.n h.cap, .int .i64 h.eLo, .int .i64 h.eHi, .int .i64 h.images, .int .i64 h.sLo, .int .i64 h.sHi, .slice h.sa h.ns h.scap], .int .i64 set, .int .i64 (k : Nat), .bool rv] Y (Ret (.agg #[.int .i64 (toldTo (tellsOf xs h.eLo h.eHi ss) set (k : Nat) rv (tellsOf xs h.eLo h.eHi ss).length).1, .int .i64 (toldTo (tellsOf xs h.eLo h.eHi ss) set (k : Nat) rv (tellsOf xs h.eLo h.eHi ss).length).2]) Y)) := fun Y k rv hY _ => by
    have := told_anyR h xs ss set k rv Y (HM.out.below (Nat.le_refl _) hY) hv hs
    rw [len_tellsOf]
    exact this
  have HS : Hid (sumsS h xs ss set = (sumsTo (tellsOf xs h.eLo h.eHi ss) set h.sLo h.sHi N).getD (1, 0)) := by
    show _ = _; unfold sumsS; rw [hN]; rfl
  have HR : Hid (∀ k rv, (-1099511627776 ≤ (toldTo (tellsOf xs h.eLo h.eHi ss) set (k : Nat) rv (tellsOf xs h.eLo h.eHi ss).length).1 ∧ (toldTo (tellsOf xs h.eLo h.eHi ss) set (k : Nat) rv (tellsOf xs h.eLo h.eHi ss).length).1 ≤ 131072) ∧ -131072 ≤ (toldTo (tellsOf xs h.eLo h.eHi ss) set (k : Nat) rv (tellsOf xs h.eLo h.eHi ss).length).2 ∧ (toldTo (tellsOf xs h.eLo h.eHi ss) set (k : Nat) rv (tellsOf xs h.eLo h.eHi ss).length).2 ≤ 1099511627776) := fun k rv => told_rng hfair set k rv _ (Nat.le_refl _)
  have HO : Hid (∀ k o, sumsTo (tellsOf xs h.eLo h.eHi ss) set h.sLo h.sHi k = some o → (0 ≤ o.1 ∧ o.1 ≤ 1000000) ∧ -1000000 ≤ o.2 ∧ o.2 ≤ 131072) := fun k o ho => sumsTo_rng hfair (by omega) k o ho
  clear hm hv hfair va vb vc ve vf vg
  have HNe := Lib.hid hN
  generalize tellsOf xs h.eLo h.eHi ss = ts at *
  generalize sumsS h xs ss set = R at *
  rw [hN] at HT hT0
  unfold Hd.val
  rw [hN]
  clear hN vd
  go_enter Try.func46, Try.ntmps46
  go_wp2_with fail
  generalize hBw : w.heap.size = B at hT0 ⊢
  generalize ((w.alloc (.cells #[.slice h.a h.n h.cap, .int .i64 h.eLo, .int .i64 h.eHi, .int .i64 N, .int .i64 h.sLo, .int .i64 h.sHi, .slice h.sa h.ns h.scap] 29)).alloc (.cells #[.int .i64 0, .int .i64 0] 24)).alloc (.cells #[.int .i64 h.sLo, .int .i64 h.sHi] 24) = W at *
  clear hBw
  go_loopw [6] (fun i wr => ∃ k : Nat, k ≤ N ∧ i = .int .i64 k ∧ ∃ o : Int × Int, Hid (sumsTo ts set h.sLo h.sHi k = some o) ∧ Td w wr B h o.1 o.2) (fun i _ => N - (intOf i).toNat)
  case atStart => exact ⟨0, by omega, rfl, (h.sLo, h.sHi), rfl, hT0.out⟩
  case round =>
    obtain ⟨k, hk, rfl, ⟨o1, o2⟩, hok, hT⟩ := hrel
    dsimp only at hT
    have HTd := Lib.hid hT; clear hT
    obtain ⟨⟨r1, r2⟩, r3, r4⟩ := HO.out k _ hok.out
    dsimp only at r1 r2 r3 r4
    have hTb := HTd.out.below
    have hbase := HTd.out.base
    have hk0 : (0 : Int) ≤ (k : Int) := by omega
    have hN60 : (N : Int) ≤ 6 := by omega
    obtain ⟨c0, c1, c2, c3, c4, c5, c6, _, hsl, t0, t1, f0, f1, _⟩ := HTd.out
    rw [HNe.out] at c3
    by_cases hlt : k < N
    · have hE : Hid (sumsTo ts set h.sLo h.sHi (k + 1) = if (decide ((toldTo ts set k false ts.length).1 > (toldTo ts set k false ts.length).2) || decide ((toldTo ts set k true ts.length).1 > (toldTo ts set k true ts.length).2)) = true then none
          else some (mxI o1 ((toldTo ts set k false ts.length).1 + (toldTo ts set k true ts.length).1), mnI o2 ((toldTo ts set k false ts.length).2 + (toldTo ts set k true ts.length).2))) := by
        show _ = _
        rw [sumsTo, hok.out]
      have hT1 : Hid (∀ Y, Below wr.heap.size wr Y → Calls Try.prog 88 #[.agg #[.slice h.a h.n h.cap, .int .i64 h.eLo, .int .i64 h.eHi, .int .i64 N, .int .i64 h.sLo, .int .i64 h.sHi, .slice h.sa h.ns h.scap], .int .i64 set, .int .i64 k, .bool false] Y (Ret (.agg #[.int .i64 (toldTo ts set k false ts.length).1, .int .i64 (toldTo ts set k false ts.length).2]) Y)) := fun Y hY => HT.out Y k false (BT hTb hY) hlt
      have hT2 : Hid (∀ Y, Below wr.heap.size wr Y → Calls Try.prog 88 #[.agg #[.slice h.a h.n h.cap, .int .i64 h.eLo, .int .i64 h.eHi, .int .i64 N, .int .i64 h.sLo, .int .i64 h.sHi, .slice h.sa h.ns h.scap], .int .i64 set, .int .i64 k, .bool true] Y (Ret (.agg #[.int .i64 (toldTo ts set k true ts.length).1, .int .i64 (toldTo ts set k true ts.length).2]) Y)) := fun Y hY => HT.out Y k true (BT hTb hY) hlt
      obtain ⟨⟨ra1, ra2⟩, ra3, ra4⟩ := HR.out k false
      obtain ⟨⟨rb1, rb2⟩, rb3, rb4⟩ := HR.out k true
      generalize toldTo ts set k false ts.length = ta at *
      generalize toldTo ts set k true ts.length = tb at *
      obtain ⟨a1, a2⟩ := ta
      obtain ⟨b1, b2⟩ := tb
      dsimp only at hE hT1 hT2 ra1 ra2 ra3 ra4 rb1 rb2 rb3 rb4
      have hSG : Hid (∀ X, Below wr.heap.size wr X → (X.cell? ⟨B, 0, none⟩ = some (.slice h.a h.n h.cap) ∧ X.cell? ⟨B, 1, none⟩ = some (.int .i64 h.eLo) ∧ X.cell? ⟨B, 2, none⟩ = some (.int .i64 h.eHi) ∧ X.cell? ⟨B, 3, none⟩ = some (.int .i64 N) ∧ X.cell? ⟨B, 4, none⟩ = some (.int .i64 h.sLo) ∧ X.cell? ⟨B, 5, none⟩ = some (.int .i64 h.sHi) ∧ X.cell? ⟨B, 6, none⟩ = some (.slice h.sa h.ns h.scap))) := fun X hX => ⟨cellB c0 hX, cellB c1 hX, cellB c2 hX, cellB c3 hX, cellB c4 hX, cellB c5 hX, cellB c6 hX⟩
      go_upto_region 5 with fail
      have hB0 : Below wr.heap.size wr wr.drew := Below.drew (Below.refl _ _)
      clear c0 c1 c2 c4 c5 c6 c3 hsl t0 t1 f0 f1 HT
      go_cut [7, 8] from 11 to 54 (fun a7 a8 X => ∃ g8 g9 : Nat, a7 = .pointer (some ⟨g8, 0, none⟩) ∧ a8 = .pointer (some ⟨g9, 0, none⟩) ∧ Two g8 a1 a2 X ∧ Two g9 b1 b2 X ∧ Below wr.heap.size wr X)
      case first =>
        refine wp_region_tree (.read 0 (.read 1 (.read 2 (.read 4 (.read 5 (.read 6 (.three 3 (.three 7 (.two 8 (.one 9 (.one 10 (.one 11 (.leaf)))) 9 (.one 8 (.one 10 (.one 11 (.leaf))))) 8 (.two 7 (.one 9 (.one 10 (.one 11 (.leaf)))) 9 (.one 7 (.one 10 (.one 11 (.leaf))))) 9 (.two 7 (.one 8 (.one 10 (.one 11 (.leaf)))) 8 (.one 7 (.one 10 (.one 11 (.leaf)))))) 8 (.two 3 (.two 7 (.one 9 (.one 10 (.one 11 (.leaf)))) 9 (.one 7 (.one 10 (.one 11 (.leaf))))) 9 (.one 3 (.one 7 (.one 10 (.one 11 (.leaf)))))) 9 (.two 3 (.two 7 (.one 8 (.one 10 (.one 11 (.leaf)))) 8 (.one 7 (.one 10 (.one 11 (.leaf))))) 8 (.one 3 (.one 7 (.one 10 (.one 11 (.leaf))))))))))))) (fun w' => w'.cell? ⟨B, 0, none⟩ = some (.slice h.a h.n h.cap) ∧ w'.cell? ⟨B, 1, none⟩ = some (.int .i64 h.eLo) ∧ w'.cell? ⟨B, 2, none⟩ = some (.int .i64 h.eHi) ∧ w'.cell? ⟨B, 3, none⟩ = some (.int .i64 N) ∧ w'.cell? ⟨B, 4, none⟩ = some (.int .i64 h.sLo) ∧ w'.cell? ⟨B, 5, none⟩ = some (.int .i64 h.sHi) ∧ w'.cell? ⟨B, 6, none⟩ = some (.slice h.sa h.ns h.scap)) (by kernel_rfl) (by kernel_rfl) (fun _ _ d _ _ h => by cases d <;> exact h) (hSG.out _ hB0) ?_
        generalize wr.drew = X0 at *
        repeat (first | (refine tr_read rfl (by rfl) _ (fun w' hS => by (try dsimp only at hS); go_simp; (try with_reducible rfl)) ?_; (try simp only [Act.put, List.setIfInBounds_toArray, List.set_cons_zero, List.set_cons_succ])) | (refine tr_skip rfl (by rfl) ?_; (try simp only [Act.put, List.setIfInBounds_toArray, List.set_cons_zero, List.set_cons_succ])))
        refine ⟨?_, ?_, ?_⟩
        · skip
          refine tr_step rfl (by rfl) (fun K hK => ?_)
          go_simp
          refine (hT1.out X0 hB0).mono ?_
          rintro e X1 ⟨rfl, hb1⟩
          have hB1 := BT hB0 hb1
          refine hK _ _ (hSG.out _ hB1) ?_
          clear hK K hB0 hb1
          (try simp only [Act.put, List.setIfInBounds_toArray, List.set_cons_zero, List.set_cons_succ])
          refine ⟨?_, ?_, ?_⟩
          · skip
            refine tr_step rfl (by rfl) (fun K hK => ?_)
            go_simp
            refine (hT2.out X1 hB1).mono ?_
            rintro e X2 ⟨rfl, hb2⟩
            have hB2 := BT hB1 hb2
            refine hK _ _ (hSG.out _ hB2) ?_
            clear hK K hB1 hb2
            (try simp only [Act.put, List.setIfInBounds_toArray, List.set_cons_zero, List.set_cons_succ])
            refine ⟨?_, ?_⟩
            · skip
              refine tr_step rfl (by rfl) (fun K hK => ?_)
              have hB3 := BA hB2 (.cells #[.int .i64 0, .int .i64 0] 24)
              have h8_3 := slots_new2 X2 24
              have hg8 := hB2.size
              go_simp
              generalize X2.heap.size = g8 at *
              generalize X2.alloc (.cells #[.int .i64 0, .int .i64 0] 24) = X3 at *
              refine hK _ _ (hSG.out _ hB3) ?_
              clear hK K hB2 
              (try simp only [Act.put, List.setIfInBounds_toArray, List.set_cons_zero, List.set_cons_succ])
              refine tr_step rfl (by rfl) (fun K hK => ?_)
              have hB4 := BA hB3 (.cells #[.int .i64 0, .int .i64 0] 24)
              have h8_4 := h8_3.below (newB X3 (.cells #[.int .i64 0, .int .i64 0] 24)) (h8_3.lt2)
              have hlt8_4 := h8_3.lt2
              have h9_4 := slots_new2 X3 24
              have hg9 := hB3.size
              go_simp
              generalize X3.heap.size = g9 at *
              generalize X3.alloc (.cells #[.int .i64 0, .int .i64 0] 24) = X4 at *
              refine hK _ _ (hSG.out _ hB4) ?_
              clear hK K hB3 h8_3
              (try simp only [Act.put, List.setIfInBounds_toArray, List.set_cons_zero, List.set_cons_succ])
              refine tr_step rfl (by rfl) (fun K hK => ?_)
              obtain ⟨u0_5, q0_5, f0_5⟩ := h8_4.get 0 (by omega)
              obtain ⟨u1_5, q1_5, f1_5⟩ := h8_4.get 1 (by omega)
              have hB5 := BC (BC hB4 g8 0 hg8 (.int .i64 (a1))) g8 1 hg8 (.int .i64 (a2))
              have h9_5 := (h9_4.set ⟨g8, 0, none⟩ (.int .i64 (a1))).set ⟨g8, 1, none⟩ (.int .i64 (a2))
              have h8_5 := two_set h8_4 (a1) (a2)
              go_simp
              clear q0_5 f0_5 q1_5 f1_5
              generalize (X4.setCell ⟨g8, 0, none⟩ (.int .i64 (a1))).setCell ⟨g8, 1, none⟩ (.int .i64 (a2)) = X5 at *
              refine hK _ _ (hSG.out _ hB5) ?_
              clear hK K hB4 h9_4 h8_4
              (try simp only [Act.put, List.setIfInBounds_toArray, List.set_cons_zero, List.set_cons_succ])
              refine tr_last rfl (by rfl) (by kernel_rfl) (fun K hK => ?_)
              obtain ⟨u0_6, q0_6, f0_6⟩ := h9_5.get 0 (by omega)
              obtain ⟨u1_6, q1_6, f1_6⟩ := h9_5.get 1 (by omega)
              have hB6 := BC (BC hB5 g9 0 hg9 (.int .i64 (b1))) g9 1 hg9 (.int .i64 (b2))
              have h8_6 := h8_5.far (g' := g9) (by omega) (b1) (b2)
              have h9_6 := two_set h9_5 (b1) (b2)
              go_simp
              clear q0_6 f0_6 q1_6 f1_6
              generalize (X5.setCell ⟨g9, 0, none⟩ (.int .i64 (b1))).setCell ⟨g9, 1, none⟩ (.int .i64 (b2)) = X6 at *
              refine hK _ _ ?_
              clear hK K hB5 h8_5 h9_5
              (try simp only [Act.put, List.setIfInBounds_toArray, List.set_cons_zero, List.set_cons_succ])
              show Exit.then _ _ Exit.normal _ _
              go_wp2_with fail
              go_meet
              exact ⟨g8, g9, rfl, rfl, h8_6, h9_6, hB6⟩
            · skip
              refine tr_step rfl (by rfl) (fun K hK => ?_)
              have hB7 := BA hB2 (.cells #[.int .i64 0, .int .i64 0] 24)
              have h9_7 := slots_new2 X2 24
              have hg9 := hB2.size
              go_simp
              generalize X2.heap.size = g9 at *
              generalize X2.alloc (.cells #[.int .i64 0, .int .i64 0] 24) = X7 at *
              refine hK _ _ (hSG.out _ hB7) ?_
              clear hK K hB2 
              (try simp only [Act.put, List.setIfInBounds_toArray, List.set_cons_zero, List.set_cons_succ])
              refine tr_step rfl (by rfl) (fun K hK => ?_)
              have hB8 := BA hB7 (.cells #[.int .i64 0, .int .i64 0] 24)
              have h9_8 := h9_7.below (newB X7 (.cells #[.int .i64 0, .int .i64 0] 24)) (h9_7.lt2)
              have hlt9_8 := h9_7.lt2
              have h8_8 := slots_new2 X7 24
              have hg8 := hB7.size
              go_simp
              generalize X7.heap.size = g8 at *
              generalize X7.alloc (.cells #[.int .i64 0, .int .i64 0] 24) = X8 at *
              refine hK _ _ (hSG.out _ hB8) ?_
              clear hK K hB7 h9_7
              (try simp only [Act.put, List.setIfInBounds_toArray, List.set_cons_zero, List.set_cons_succ])
              refine tr_step rfl (by rfl) (fun K hK => ?_)
              obtain ⟨u0_9, q0_9, f0_9⟩ := h8_8.get 0 (by omega)
              obtain ⟨u1_9, q1_9, f1_9⟩ := h8_8.get 1 (by omega)
              have hB9 := BC (BC hB8 g8 0 hg8 (.int .i64 (a1))) g8 1 hg8 (.int .i64 (a2))
              have h9_9 := (h9_8.set ⟨g8, 0, none⟩ (.int .i64 (a1))).set ⟨g8, 1, none⟩ (.int .i64 (a2))
              have h8_9 := two_set h8_8 (a1) (a2)
              go_simp
              clear q0_9 f0_9 q1_9 f1_9
              generalize (X8.setCell ⟨g8, 0, none⟩ (.int .i64 (a1))).setCell ⟨g8, 1, none⟩ (.int .i64 (a2)) = X9 at *
              refine hK _ _ (hSG.out _ hB9) ?_
              clear hK K hB8 h9_8 h8_8
              (try simp only [Act.put, List.setIfInBounds_toArray, List.set_cons_zero, List.set_cons_succ])
              refine tr_last rfl (by rfl) (by kernel_rfl) (fun K hK => ?_)
              obtain ⟨u0_10, q0_10, f0_10⟩ := h9_9.get 0 (by omega)
              obtain ⟨u1_10, q1_10, f1_10⟩ := h9_9.get 1 (by omega)
              have hB10 := BC (BC hB9 g9 0 hg9 (.int .i64 (b1))) g9 1 hg9 (.int .i64 (b2))
              have h8_10 := h8_9.far (g' := g9) (by omega) (b1) (b2)
              have h9_10 := two_set h9_9 (b1) (b2)
              go_simp
              clear q0_10 f0_10 q1_10 f1_10
              generalize (X9.setCell ⟨g9, 0, none⟩ (.int .i64 (b1))).setCell ⟨g9, 1, none⟩ (.int .i64 (b2)) = X10 at *
              refine hK _ _ ?_
              clear hK K hB9 h8_9 h9_9
              (try simp only [Act.put, List.setIfInBounds_toArray, List.set_cons_zero, List.set_cons_succ])
              show Exit.then _ _ Exit.normal _ _
              go_wp2_with fail
              go_meet
              exact ⟨g8, g9, rfl, rfl, h8_10, h9_10, hB10⟩
          · skip
            refine tr_step rfl (by rfl) (fun K hK => ?_)
            have hB11 := BA hB1 (.cells #[.int .i64 0, .int .i64 0] 24)
            have h8_11 := slots_new2 X1 24
            have hg8 := hB1.size
            go_simp
            generalize X1.heap.size = g8 at *
            generalize X1.alloc (.cells #[.int .i64 0, .int .i64 0] 24) = X11 at *
            refine hK _ _ (hSG.out _ hB11) ?_
            clear hK K hB1 
            (try simp only [Act.put, List.setIfInBounds_toArray, List.set_cons_zero, List.set_cons_succ])
            refine ⟨?_, ?_⟩
            · skip
              refine tr_step rfl (by rfl) (fun K hK => ?_)
              go_simp
              refine (hT2.out X11 hB11).mono ?_
              rintro e X12 ⟨rfl, hb12⟩
              have hB12 := BT hB11 hb12
              have h8_12 := h8_11.below hb12 (h8_11.lt2)
              refine hK _ _ (hSG.out _ hB12) ?_
              clear hK K hB11 h8_11 hb12
              (try simp only [Act.put, List.setIfInBounds_toArray, List.set_cons_zero, List.set_cons_succ])
              refine tr_step rfl (by rfl) (fun K hK => ?_)
              have hB13 := BA hB12 (.cells #[.int .i64 0, .int .i64 0] 24)
              have h8_13 := h8_12.below (newB X12 (.cells #[.int .i64 0, .int .i64 0] 24)) (h8_12.lt2)
              have hlt8_13 := h8_12.lt2
              have h9_13 := slots_new2 X12 24
              have hg9 := hB12.size
              go_simp
              generalize X12.heap.size = g9 at *
              generalize X12.alloc (.cells #[.int .i64 0, .int .i64 0] 24) = X13 at *
              refine hK _ _ (hSG.out _ hB13) ?_
              clear hK K hB12 h8_12
              (try simp only [Act.put, List.setIfInBounds_toArray, List.set_cons_zero, List.set_cons_succ])
              refine tr_step rfl (by rfl) (fun K hK => ?_)
              obtain ⟨u0_14, q0_14, f0_14⟩ := h8_13.get 0 (by omega)
              obtain ⟨u1_14, q1_14, f1_14⟩ := h8_13.get 1 (by omega)
              have hB14 := BC (BC hB13 g8 0 hg8 (.int .i64 (a1))) g8 1 hg8 (.int .i64 (a2))
              have h9_14 := (h9_13.set ⟨g8, 0, none⟩ (.int .i64 (a1))).set ⟨g8, 1, none⟩ (.int .i64 (a2))
              have h8_14 := two_set h8_13 (a1) (a2)
              go_simp
              clear q0_14 f0_14 q1_14 f1_14
              generalize (X13.setCell ⟨g8, 0, none⟩ (.int .i64 (a1))).setCell ⟨g8, 1, none⟩ (.int .i64 (a2)) = X14 at *
              refine hK _ _ (hSG.out _ hB14) ?_
              clear hK K hB13 h9_13 h8_13
              (try simp only [Act.put, List.setIfInBounds_toArray, List.set_cons_zero, List.set_cons_succ])
              refine tr_last rfl (by rfl) (by kernel_rfl) (fun K hK => ?_)
              obtain ⟨u0_15, q0_15, f0_15⟩ := h9_14.get 0 (by omega)
              obtain ⟨u1_15, q1_15, f1_15⟩ := h9_14.get 1 (by omega)
              have hB15 := BC (BC hB14 g9 0 hg9 (.int .i64 (b1))) g9 1 hg9 (.int .i64 (b2))
              have h8_15 := h8_14.far (g' := g9) (by omega) (b1) (b2)
              have h9_15 := two_set h9_14 (b1) (b2)
              go_simp
              clear q0_15 f0_15 q1_15 f1_15
              generalize (X14.setCell ⟨g9, 0, none⟩ (.int .i64 (b1))).setCell ⟨g9, 1, none⟩ (.int .i64 (b2)) = X15 at *
              refine hK _ _ ?_
              clear hK K hB14 h8_14 h9_14
              (try simp only [Act.put, List.setIfInBounds_toArray, List.set_cons_zero, List.set_cons_succ])
              show Exit.then _ _ Exit.normal _ _
              go_wp2_with fail
              go_meet
              exact ⟨g8, g9, rfl, rfl, h8_15, h9_15, hB15⟩
            · skip
              refine tr_step rfl (by rfl) (fun K hK => ?_)
              have hB16 := BA hB11 (.cells #[.int .i64 0, .int .i64 0] 24)
              have h8_16 := h8_11.below (newB X11 (.cells #[.int .i64 0, .int .i64 0] 24)) (h8_11.lt2)
              have hlt8_16 := h8_11.lt2
              have h9_16 := slots_new2 X11 24
              have hg9 := hB11.size
              go_simp
              generalize X11.heap.size = g9 at *
              generalize X11.alloc (.cells #[.int .i64 0, .int .i64 0] 24) = X16 at *
              refine hK _ _ (hSG.out _ hB16) ?_
              clear hK K hB11 h8_11
              (try simp only [Act.put, List.setIfInBounds_toArray, List.set_cons_zero, List.set_cons_succ])
              refine tr_step rfl (by rfl) (fun K hK => ?_)
              go_simp
              refine (hT2.out X16 hB16).mono ?_
              rintro e X17 ⟨rfl, hb17⟩
              have hB17 := BT hB16 hb17
              have h8_17 := h8_16.below hb17 (h8_16.lt2)
              have h9_17 := h9_16.below hb17 (h9_16.lt2)
              refine hK _ _ (hSG.out _ hB17) ?_
              clear hK K hB16 h8_16 h9_16 hb17
              (try simp only [Act.put, List.setIfInBounds_toArray, List.set_cons_zero, List.set_cons_succ])
              refine tr_step rfl (by rfl) (fun K hK => ?_)
              obtain ⟨u0_18, q0_18, f0_18⟩ := h8_17.get 0 (by omega)
              obtain ⟨u1_18, q1_18, f1_18⟩ := h8_17.get 1 (by omega)
              have hB18 := BC (BC hB17 g8 0 hg8 (.int .i64 (a1))) g8 1 hg8 (.int .i64 (a2))
              have h9_18 := (h9_17.set ⟨g8, 0, none⟩ (.int .i64 (a1))).set ⟨g8, 1, none⟩ (.int .i64 (a2))
              have h8_18 := two_set h8_17 (a1) (a2)
              go_simp
              clear q0_18 f0_18 q1_18 f1_18
              generalize (X17.setCell ⟨g8, 0, none⟩ (.int .i64 (a1))).setCell ⟨g8, 1, none⟩ (.int .i64 (a2)) = X18 at *
              refine hK _ _ (hSG.out _ hB18) ?_
              clear hK K hB17 h9_17 h8_17
              (try simp only [Act.put, List.setIfInBounds_toArray, List.set_cons_zero, List.set_cons_succ])
              refine tr_last rfl (by rfl) (by kernel_rfl) (fun K hK => ?_)
              obtain ⟨u0_19, q0_19, f0_19⟩ := h9_18.get 0 (by omega)
              obtain ⟨u1_19, q1_19, f1_19⟩ := h9_18.get 1 (by omega)
              have hB19 := BC (BC hB18 g9 0 hg9 (.int .i64 (b1))) g9 1 hg9 (.int .i64 (b2))
              have h8_19 := h8_18.far (g' := g9) (by omega) (b1) (b2)
              have h9_19 := two_set h9_18 (b1) (b2)
              go_simp
              clear q0_19 f0_19 q1_19 f1_19
              generalize (X18.setCell ⟨g9, 0, none⟩ (.int .i64 (b1))).setCell ⟨g9, 1, none⟩ (.int .i64 (b2)) = X19 at *
              refine hK _ _ ?_
              clear hK K hB18 h8_18 h9_18
              (try simp only [Act.put, List.setIfInBounds_toArray, List.set_cons_zero, List.set_cons_succ])
              show Exit.then _ _ Exit.normal _ _
              go_wp2_with fail
              go_meet
              exact ⟨g8, g9, rfl, rfl, h8_19, h9_19, hB19⟩
          · skip
            refine tr_step rfl (by rfl) (fun K hK => ?_)
            have hB20 := BA hB1 (.cells #[.int .i64 0, .int .i64 0] 24)
            have h9_20 := slots_new2 X1 24
            have hg9 := hB1.size
            go_simp
            generalize X1.heap.size = g9 at *
            generalize X1.alloc (.cells #[.int .i64 0, .int .i64 0] 24) = X20 at *
            refine hK _ _ (hSG.out _ hB20) ?_
            clear hK K hB1 
            (try simp only [Act.put, List.setIfInBounds_toArray, List.set_cons_zero, List.set_cons_succ])
            refine ⟨?_, ?_⟩
            · skip
              refine tr_step rfl (by rfl) (fun K hK => ?_)
              go_simp
              refine (hT2.out X20 hB20).mono ?_
              rintro e X21 ⟨rfl, hb21⟩
              have hB21 := BT hB20 hb21
              have h9_21 := h9_20.below hb21 (h9_20.lt2)
              refine hK _ _ (hSG.out _ hB21) ?_
              clear hK K hB20 h9_20 hb21
              (try simp only [Act.put, List.setIfInBounds_toArray, List.set_cons_zero, List.set_cons_succ])
              refine tr_step rfl (by rfl) (fun K hK => ?_)
              have hB22 := BA hB21 (.cells #[.int .i64 0, .int .i64 0] 24)
              have h9_22 := h9_21.below (newB X21 (.cells #[.int .i64 0, .int .i64 0] 24)) (h9_21.lt2)
              have hlt9_22 := h9_21.lt2
              have h8_22 := slots_new2 X21 24
              have hg8 := hB21.size
              go_simp
              generalize X21.heap.size = g8 at *
              generalize X21.alloc (.cells #[.int .i64 0, .int .i64 0] 24) = X22 at *
              refine hK _ _ (hSG.out _ hB22) ?_
              clear hK K hB21 h9_21
              (try simp only [Act.put, List.setIfInBounds_toArray, List.set_cons_zero, List.set_cons_succ])
              refine tr_step rfl (by rfl) (fun K hK => ?_)
              obtain ⟨u0_23, q0_23, f0_23⟩ := h8_22.get 0 (by omega)
              obtain ⟨u1_23, q1_23, f1_23⟩ := h8_22.get 1 (by omega)
              have hB23 := BC (BC hB22 g8 0 hg8 (.int .i64 (a1))) g8 1 hg8 (.int .i64 (a2))
              have h9_23 := (h9_22.set ⟨g8, 0, none⟩ (.int .i64 (a1))).set ⟨g8, 1, none⟩ (.int .i64 (a2))
              have h8_23 := two_set h8_22 (a1) (a2)
              go_simp
              clear q0_23 f0_23 q1_23 f1_23
              generalize (X22.setCell ⟨g8, 0, none⟩ (.int .i64 (a1))).setCell ⟨g8, 1, none⟩ (.int .i64 (a2)) = X23 at *
              refine hK _ _ (hSG.out _ hB23) ?_
              clear hK K hB22 h9_22 h8_22
              (try simp only [Act.put, List.setIfInBounds_toArray, List.set_cons_zero, List.set_cons_succ])
              refine tr_last rfl (by rfl) (by kernel_rfl) (fun K hK => ?_)
              obtain ⟨u0_24, q0_24, f0_24⟩ := h9_23.get 0 (by omega)
              obtain ⟨u1_24, q1_24, f1_24⟩ := h9_23.get 1 (by omega)
              have hB24 := BC (BC hB23 g9 0 hg9 (.int .i64 (b1))) g9 1 hg9 (.int .i64 (b2))
              have h8_24 := h8_23.far (g' := g9) (by omega) (b1) (b2)
              have h9_24 := two_set h9_23 (b1) (b2)
              go_simp
              clear q0_24 f0_24 q1_24 f1_24
              generalize (X23.setCell ⟨g9, 0, none⟩ (.int .i64 (b1))).setCell ⟨g9, 1, none⟩ (.int .i64 (b2)) = X24 at *
              refine hK _ _ ?_
              clear hK K hB23 h8_23 h9_23
              (try simp only [Act.put, List.setIfInBounds_toArray, List.set_cons_zero, List.set_cons_succ])
              show Exit.then _ _ Exit.normal _ _
              go_wp2_with fail
              go_meet
              exact ⟨g8, g9, rfl, rfl, h8_24, h9_24, hB24⟩
            · skip
              refine tr_step rfl (by rfl) (fun K hK => ?_)
              have hB25 := BA hB20 (.cells #[.int .i64 0, .int .i64 0] 24)
              have h9_25 := h9_20.below (newB X20 (.cells #[.int .i64 0, .int .i64 0] 24)) (h9_20.lt2)
              have hlt9_25 := h9_20.lt2
              have h8_25 := slots_new2 X20 24
              have hg8 := hB20.size
              go_simp
              generalize X20.heap.size = g8 at *
              generalize X20.alloc (.cells #[.int .i64 0, .int .i64 0] 24) = X25 at *
              refine hK _ _ (hSG.out _ hB25) ?_
              clear hK K hB20 h9_20
              (try simp only [Act.put, List.setIfInBounds_toArray, List.set_cons_zero, List.set_cons_succ])
              refine tr_step rfl (by rfl) (fun K hK => ?_)
              go_simp
              refine (hT2.out X25 hB25).mono ?_
              rintro e X26 ⟨rfl, hb26⟩
              have hB26 := BT hB25 hb26
              have h9_26 := h9_25.below hb26 (h9_25.lt2)
              have h8_26 := h8_25.below hb26 (h8_25.lt2)
              refine hK _ _ (hSG.out _ hB26) ?_
              clear hK K hB25 h9_25 h8_25 hb26
              (try simp only [Act.put, List.setIfInBounds_toArray, List.set_cons_zero, List.set_cons_succ])
              refine tr_step rfl (by rfl) (fun K hK => ?_)
              obtain ⟨u0_27, q0_27, f0_27⟩ := h8_26.get 0 (by omega)
              obtain ⟨u1_27, q1_27, f1_27⟩ := h8_26.get 1 (by omega)
              have hB27 := BC (BC hB26 g8 0 hg8 (.int .i64 (a1))) g8 1 hg8 (.int .i64 (a2))
              have h9_27 := (h9_26.set ⟨g8, 0, none⟩ (.int .i64 (a1))).set ⟨g8, 1, none⟩ (.int .i64 (a2))
              have h8_27 := two_set h8_26 (a1) (a2)
              go_simp
              clear q0_27 f0_27 q1_27 f1_27
              generalize (X26.setCell ⟨g8, 0, none⟩ (.int .i64 (a1))).setCell ⟨g8, 1, none⟩ (.int .i64 (a2)) = X27 at *
              refine hK _ _ (hSG.out _ hB27) ?_
              clear hK K hB26 h9_26 h8_26
              (try simp only [Act.put, List.setIfInBounds_toArray, List.set_cons_zero, List.set_cons_succ])
              refine tr_last rfl (by rfl) (by kernel_rfl) (fun K hK => ?_)
              obtain ⟨u0_28, q0_28, f0_28⟩ := h9_27.get 0 (by omega)
              obtain ⟨u1_28, q1_28, f1_28⟩ := h9_27.get 1 (by omega)
              have hB28 := BC (BC hB27 g9 0 hg9 (.int .i64 (b1))) g9 1 hg9 (.int .i64 (b2))
              have h8_28 := h8_27.far (g' := g9) (by omega) (b1) (b2)
              have h9_28 := two_set h9_27 (b1) (b2)
              go_simp
              clear q0_28 f0_28 q1_28 f1_28
              generalize (X27.setCell ⟨g9, 0, none⟩ (.int .i64 (b1))).setCell ⟨g9, 1, none⟩ (.int .i64 (b2)) = X28 at *
              refine hK _ _ ?_
              clear hK K hB27 h8_27 h9_27
              (try simp only [Act.put, List.setIfInBounds_toArray, List.set_cons_zero, List.set_cons_succ])
              show Exit.then _ _ Exit.normal _ _
              go_wp2_with fail
              go_meet
              exact ⟨g8, g9, rfl, rfl, h8_28, h9_28, hB28⟩
        · skip
          refine tr_step rfl (by rfl) (fun K hK => ?_)
          have hB29 := BA hB0 (.cells #[.int .i64 0, .int .i64 0] 24)
          have h8_29 := slots_new2 X0 24
          have hg8 := hB0.size
          go_simp
          generalize X0.heap.size = g8 at *
          generalize X0.alloc (.cells #[.int .i64 0, .int .i64 0] 24) = X29 at *
          refine hK _ _ (hSG.out _ hB29) ?_
          clear hK K hB0 
          (try simp only [Act.put, List.setIfInBounds_toArray, List.set_cons_zero, List.set_cons_succ])
          refine ⟨?_, ?_⟩
          · skip
            refine tr_step rfl (by rfl) (fun K hK => ?_)
            go_simp
            refine (hT1.out X29 hB29).mono ?_
            rintro e X30 ⟨rfl, hb30⟩
            have hB30 := BT hB29 hb30
            have h8_30 := h8_29.below hb30 (h8_29.lt2)
            refine hK _ _ (hSG.out _ hB30) ?_
            clear hK K hB29 h8_29 hb30
            (try simp only [Act.put, List.setIfInBounds_toArray, List.set_cons_zero, List.set_cons_succ])
            refine ⟨?_, ?_⟩
            · skip
              refine tr_step rfl (by rfl) (fun K hK => ?_)
              go_simp
              refine (hT2.out X30 hB30).mono ?_
              rintro e X31 ⟨rfl, hb31⟩
              have hB31 := BT hB30 hb31
              have h8_31 := h8_30.below hb31 (h8_30.lt2)
              refine hK _ _ (hSG.out _ hB31) ?_
              clear hK K hB30 h8_30 hb31
              (try simp only [Act.put, List.setIfInBounds_toArray, List.set_cons_zero, List.set_cons_succ])
              refine tr_step rfl (by rfl) (fun K hK => ?_)
              have hB32 := BA hB31 (.cells #[.int .i64 0, .int .i64 0] 24)
              have h8_32 := h8_31.below (newB X31 (.cells #[.int .i64 0, .int .i64 0] 24)) (h8_31.lt2)
              have hlt8_32 := h8_31.lt2
              have h9_32 := slots_new2 X31 24
              have hg9 := hB31.size
              go_simp
              generalize X31.heap.size = g9 at *
              generalize X31.alloc (.cells #[.int .i64 0, .int .i64 0] 24) = X32 at *
              refine hK _ _ (hSG.out _ hB32) ?_
              clear hK K hB31 h8_31
              (try simp only [Act.put, List.setIfInBounds_toArray, List.set_cons_zero, List.set_cons_succ])
              refine tr_step rfl (by rfl) (fun K hK => ?_)
              obtain ⟨u0_33, q0_33, f0_33⟩ := h8_32.get 0 (by omega)
              obtain ⟨u1_33, q1_33, f1_33⟩ := h8_32.get 1 (by omega)
              have hB33 := BC (BC hB32 g8 0 hg8 (.int .i64 (a1))) g8 1 hg8 (.int .i64 (a2))
              have h9_33 := (h9_32.set ⟨g8, 0, none⟩ (.int .i64 (a1))).set ⟨g8, 1, none⟩ (.int .i64 (a2))
              have h8_33 := two_set h8_32 (a1) (a2)
              go_simp
              clear q0_33 f0_33 q1_33 f1_33
              generalize (X32.setCell ⟨g8, 0, none⟩ (.int .i64 (a1))).setCell ⟨g8, 1, none⟩ (.int .i64 (a2)) = X33 at *
              refine hK _ _ (hSG.out _ hB33) ?_
              clear hK K hB32 h9_32 h8_32
              (try simp only [Act.put, List.setIfInBounds_toArray, List.set_cons_zero, List.set_cons_succ])
              refine tr_last rfl (by rfl) (by kernel_rfl) (fun K hK => ?_)
              obtain ⟨u0_34, q0_34, f0_34⟩ := h9_33.get 0 (by omega)
              obtain ⟨u1_34, q1_34, f1_34⟩ := h9_33.get 1 (by omega)
              have hB34 := BC (BC hB33 g9 0 hg9 (.int .i64 (b1))) g9 1 hg9 (.int .i64 (b2))
              have h8_34 := h8_33.far (g' := g9) (by omega) (b1) (b2)
              have h9_34 := two_set h9_33 (b1) (b2)
              go_simp
              clear q0_34 f0_34 q1_34 f1_34
              generalize (X33.setCell ⟨g9, 0, none⟩ (.int .i64 (b1))).setCell ⟨g9, 1, none⟩ (.int .i64 (b2)) = X34 at *
              refine hK _ _ ?_
              clear hK K hB33 h8_33 h9_33
              (try simp only [Act.put, List.setIfInBounds_toArray, List.set_cons_zero, List.set_cons_succ])
              show Exit.then _ _ Exit.normal _ _
              go_wp2_with fail
              go_meet
              exact ⟨g8, g9, rfl, rfl, h8_34, h9_34, hB34⟩
            · skip
              refine tr_step rfl (by rfl) (fun K hK => ?_)
              have hB35 := BA hB30 (.cells #[.int .i64 0, .int .i64 0] 24)
              have h8_35 := h8_30.below (newB X30 (.cells #[.int .i64 0, .int .i64 0] 24)) (h8_30.lt2)
              have hlt8_35 := h8_30.lt2
              have h9_35 := slots_new2 X30 24
              have hg9 := hB30.size
              go_simp
              generalize X30.heap.size = g9 at *
              generalize X30.alloc (.cells #[.int .i64 0, .int .i64 0] 24) = X35 at *
              refine hK _ _ (hSG.out _ hB35) ?_
              clear hK K hB30 h8_30
              (try simp only [Act.put, List.setIfInBounds_toArray, List.set_cons_zero, List.set_cons_succ])
              refine tr_step rfl (by rfl) (fun K hK => ?_)
              go_simp
              refine (hT2.out X35 hB35).mono ?_
              rintro e X36 ⟨rfl, hb36⟩
              have hB36 := BT hB35 hb36
              have h8_36 := h8_35.below hb36 (h8_35.lt2)
              have h9_36 := h9_35.below hb36 (h9_35.lt2)
              refine hK _ _ (hSG.out _ hB36) ?_
              clear hK K hB35 h8_35 h9_35 hb36
              (try simp only [Act.put, List.setIfInBounds_toArray, List.set_cons_zero, List.set_cons_succ])
              refine tr_step rfl (by rfl) (fun K hK => ?_)
              obtain ⟨u0_37, q0_37, f0_37⟩ := h8_36.get 0 (by omega)
              obtain ⟨u1_37, q1_37, f1_37⟩ := h8_36.get 1 (by omega)
              have hB37 := BC (BC hB36 g8 0 hg8 (.int .i64 (a1))) g8 1 hg8 (.int .i64 (a2))
              have h9_37 := (h9_36.set ⟨g8, 0, none⟩ (.int .i64 (a1))).set ⟨g8, 1, none⟩ (.int .i64 (a2))
              have h8_37 := two_set h8_36 (a1) (a2)
              go_simp
              clear q0_37 f0_37 q1_37 f1_37
              generalize (X36.setCell ⟨g8, 0, none⟩ (.int .i64 (a1))).setCell ⟨g8, 1, none⟩ (.int .i64 (a2)) = X37 at *
              refine hK _ _ (hSG.out _ hB37) ?_
              clear hK K hB36 h9_36 h8_36
              (try simp only [Act.put, List.setIfInBounds_toArray, List.set_cons_zero, List.set_cons_succ])
              refine tr_last rfl (by rfl) (by kernel_rfl) (fun K hK => ?_)
              obtain ⟨u0_38, q0_38, f0_38⟩ := h9_37.get 0 (by omega)
              obtain ⟨u1_38, q1_38, f1_38⟩ := h9_37.get 1 (by omega)
              have hB38 := BC (BC hB37 g9 0 hg9 (.int .i64 (b1))) g9 1 hg9 (.int .i64 (b2))
              have h8_38 := h8_37.far (g' := g9) (by omega) (b1) (b2)
              have h9_38 := two_set h9_37 (b1) (b2)
              go_simp
              clear q0_38 f0_38 q1_38 f1_38
              generalize (X37.setCell ⟨g9, 0, none⟩ (.int .i64 (b1))).setCell ⟨g9, 1, none⟩ (.int .i64 (b2)) = X38 at *
              refine hK _ _ ?_
              clear hK K hB37 h8_37 h9_37
              (try simp only [Act.put, List.setIfInBounds_toArray, List.set_cons_zero, List.set_cons_succ])
              show Exit.then _ _ Exit.normal _ _
              go_wp2_with fail
              go_meet
              exact ⟨g8, g9, rfl, rfl, h8_38, h9_38, hB38⟩
          · skip
            refine tr_step rfl (by rfl) (fun K hK => ?_)
            have hB39 := BA hB29 (.cells #[.int .i64 0, .int .i64 0] 24)
            have h8_39 := h8_29.below (newB X29 (.cells #[.int .i64 0, .int .i64 0] 24)) (h8_29.lt2)
            have hlt8_39 := h8_29.lt2
            have h9_39 := slots_new2 X29 24
            have hg9 := hB29.size
            go_simp
            generalize X29.heap.size = g9 at *
            generalize X29.alloc (.cells #[.int .i64 0, .int .i64 0] 24) = X39 at *
            refine hK _ _ (hSG.out _ hB39) ?_
            clear hK K hB29 h8_29
            (try simp only [Act.put, List.setIfInBounds_toArray, List.set_cons_zero, List.set_cons_succ])
            refine tr_step rfl (by rfl) (fun K hK => ?_)
            go_simp
            refine (hT1.out X39 hB39).mono ?_
            rintro e X40 ⟨rfl, hb40⟩
            have hB40 := BT hB39 hb40
            have h8_40 := h8_39.below hb40 (h8_39.lt2)
            have h9_40 := h9_39.below hb40 (h9_39.lt2)
            refine hK _ _ (hSG.out _ hB40) ?_
            clear hK K hB39 h8_39 h9_39 hb40
            (try simp only [Act.put, List.setIfInBounds_toArray, List.set_cons_zero, List.set_cons_succ])
            refine tr_step rfl (by rfl) (fun K hK => ?_)
            go_simp
            refine (hT2.out X40 hB40).mono ?_
            rintro e X41 ⟨rfl, hb41⟩
            have hB41 := BT hB40 hb41
            have h8_41 := h8_40.below hb41 (h8_40.lt2)
            have h9_41 := h9_40.below hb41 (h9_40.lt2)
            refine hK _ _ (hSG.out _ hB41) ?_
            clear hK K hB40 h8_40 h9_40 hb41
            (try simp only [Act.put, List.setIfInBounds_toArray, List.set_cons_zero, List.set_cons_succ])
            refine tr_step rfl (by rfl) (fun K hK => ?_)
            obtain ⟨u0_42, q0_42, f0_42⟩ := h8_41.get 0 (by omega)
            obtain ⟨u1_42, q1_42, f1_42⟩ := h8_41.get 1 (by omega)
            have hB42 := BC (BC hB41 g8 0 hg8 (.int .i64 (a1))) g8 1 hg8 (.int .i64 (a2))
            have h9_42 := (h9_41.set ⟨g8, 0, none⟩ (.int .i64 (a1))).set ⟨g8, 1, none⟩ (.int .i64 (a2))
            have h8_42 := two_set h8_41 (a1) (a2)
            go_simp
            clear q0_42 f0_42 q1_42 f1_42
            generalize (X41.setCell ⟨g8, 0, none⟩ (.int .i64 (a1))).setCell ⟨g8, 1, none⟩ (.int .i64 (a2)) = X42 at *
            refine hK _ _ (hSG.out _ hB42) ?_
            clear hK K hB41 h9_41 h8_41
            (try simp only [Act.put, List.setIfInBounds_toArray, List.set_cons_zero, List.set_cons_succ])
            refine tr_last rfl (by rfl) (by kernel_rfl) (fun K hK => ?_)
            obtain ⟨u0_43, q0_43, f0_43⟩ := h9_42.get 0 (by omega)
            obtain ⟨u1_43, q1_43, f1_43⟩ := h9_42.get 1 (by omega)
            have hB43 := BC (BC hB42 g9 0 hg9 (.int .i64 (b1))) g9 1 hg9 (.int .i64 (b2))
            have h8_43 := h8_42.far (g' := g9) (by omega) (b1) (b2)
            have h9_43 := two_set h9_42 (b1) (b2)
            go_simp
            clear q0_43 f0_43 q1_43 f1_43
            generalize (X42.setCell ⟨g9, 0, none⟩ (.int .i64 (b1))).setCell ⟨g9, 1, none⟩ (.int .i64 (b2)) = X43 at *
            refine hK _ _ ?_
            clear hK K hB42 h8_42 h9_42
            (try simp only [Act.put, List.setIfInBounds_toArray, List.set_cons_zero, List.set_cons_succ])
            show Exit.then _ _ Exit.normal _ _
            go_wp2_with fail
            go_meet
            exact ⟨g8, g9, rfl, rfl, h8_43, h9_43, hB43⟩
        · skip
          refine tr_step rfl (by rfl) (fun K hK => ?_)
          have hB44 := BA hB0 (.cells #[.int .i64 0, .int .i64 0] 24)
          have h9_44 := slots_new2 X0 24
          have hg9 := hB0.size
          go_simp
          generalize X0.heap.size = g9 at *
          generalize X0.alloc (.cells #[.int .i64 0, .int .i64 0] 24) = X44 at *
          refine hK _ _ (hSG.out _ hB44) ?_
          clear hK K hB0 
          (try simp only [Act.put, List.setIfInBounds_toArray, List.set_cons_zero, List.set_cons_succ])
          refine ⟨?_, ?_⟩
          · skip
            refine tr_step rfl (by rfl) (fun K hK => ?_)
            go_simp
            refine (hT1.out X44 hB44).mono ?_
            rintro e X45 ⟨rfl, hb45⟩
            have hB45 := BT hB44 hb45
            have h9_45 := h9_44.below hb45 (h9_44.lt2)
            refine hK _ _ (hSG.out _ hB45) ?_
            clear hK K hB44 h9_44 hb45
            (try simp only [Act.put, List.setIfInBounds_toArray, List.set_cons_zero, List.set_cons_succ])
            refine ⟨?_, ?_⟩
            · skip
              refine tr_step rfl (by rfl) (fun K hK => ?_)
              go_simp
              refine (hT2.out X45 hB45).mono ?_
              rintro e X46 ⟨rfl, hb46⟩
              have hB46 := BT hB45 hb46
              have h9_46 := h9_45.below hb46 (h9_45.lt2)
              refine hK _ _ (hSG.out _ hB46) ?_
              clear hK K hB45 h9_45 hb46
              (try simp only [Act.put, List.setIfInBounds_toArray, List.set_cons_zero, List.set_cons_succ])
              refine tr_step rfl (by rfl) (fun K hK => ?_)
              have hB47 := BA hB46 (.cells #[.int .i64 0, .int .i64 0] 24)
              have h9_47 := h9_46.below (newB X46 (.cells #[.int .i64 0, .int .i64 0] 24)) (h9_46.lt2)
              have hlt9_47 := h9_46.lt2
              have h8_47 := slots_new2 X46 24
              have hg8 := hB46.size
              go_simp
              generalize X46.heap.size = g8 at *
              generalize X46.alloc (.cells #[.int .i64 0, .int .i64 0] 24) = X47 at *
              refine hK _ _ (hSG.out _ hB47) ?_
              clear hK K hB46 h9_46
              (try simp only [Act.put, List.setIfInBounds_toArray, List.set_cons_zero, List.set_cons_succ])
              refine tr_step rfl (by rfl) (fun K hK => ?_)
              obtain ⟨u0_48, q0_48, f0_48⟩ := h8_47.get 0 (by omega)
              obtain ⟨u1_48, q1_48, f1_48⟩ := h8_47.get 1 (by omega)
              have hB48 := BC (BC hB47 g8 0 hg8 (.int .i64 (a1))) g8 1 hg8 (.int .i64 (a2))
              have h9_48 := (h9_47.set ⟨g8, 0, none⟩ (.int .i64 (a1))).set ⟨g8, 1, none⟩ (.int .i64 (a2))
              have h8_48 := two_set h8_47 (a1) (a2)
              go_simp
              clear q0_48 f0_48 q1_48 f1_48
              generalize (X47.setCell ⟨g8, 0, none⟩ (.int .i64 (a1))).setCell ⟨g8, 1, none⟩ (.int .i64 (a2)) = X48 at *
              refine hK _ _ (hSG.out _ hB48) ?_
              clear hK K hB47 h9_47 h8_47
              (try simp only [Act.put, List.setIfInBounds_toArray, List.set_cons_zero, List.set_cons_succ])
              refine tr_last rfl (by rfl) (by kernel_rfl) (fun K hK => ?_)
              obtain ⟨u0_49, q0_49, f0_49⟩ := h9_48.get 0 (by omega)
              obtain ⟨u1_49, q1_49, f1_49⟩ := h9_48.get 1 (by omega)
              have hB49 := BC (BC hB48 g9 0 hg9 (.int .i64 (b1))) g9 1 hg9 (.int .i64 (b2))
              have h8_49 := h8_48.far (g' := g9) (by omega) (b1) (b2)
              have h9_49 := two_set h9_48 (b1) (b2)
              go_simp
              clear q0_49 f0_49 q1_49 f1_49
              generalize (X48.setCell ⟨g9, 0, none⟩ (.int .i64 (b1))).setCell ⟨g9, 1, none⟩ (.int .i64 (b2)) = X49 at *
              refine hK _ _ ?_
              clear hK K hB48 h8_48 h9_48
              (try simp only [Act.put, List.setIfInBounds_toArray, List.set_cons_zero, List.set_cons_succ])
              show Exit.then _ _ Exit.normal _ _
              go_wp2_with fail
              go_meet
              exact ⟨g8, g9, rfl, rfl, h8_49, h9_49, hB49⟩
            · skip
              refine tr_step rfl (by rfl) (fun K hK => ?_)
              have hB50 := BA hB45 (.cells #[.int .i64 0, .int .i64 0] 24)
              have h9_50 := h9_45.below (newB X45 (.cells #[.int .i64 0, .int .i64 0] 24)) (h9_45.lt2)
              have hlt9_50 := h9_45.lt2
              have h8_50 := slots_new2 X45 24
              have hg8 := hB45.size
              go_simp
              generalize X45.heap.size = g8 at *
              generalize X45.alloc (.cells #[.int .i64 0, .int .i64 0] 24) = X50 at *
              refine hK _ _ (hSG.out _ hB50) ?_
              clear hK K hB45 h9_45
              (try simp only [Act.put, List.setIfInBounds_toArray, List.set_cons_zero, List.set_cons_succ])
              refine tr_step rfl (by rfl) (fun K hK => ?_)
              go_simp
              refine (hT2.out X50 hB50).mono ?_
              rintro e X51 ⟨rfl, hb51⟩
              have hB51 := BT hB50 hb51
              have h9_51 := h9_50.below hb51 (h9_50.lt2)
              have h8_51 := h8_50.below hb51 (h8_50.lt2)
              refine hK _ _ (hSG.out _ hB51) ?_
              clear hK K hB50 h9_50 h8_50 hb51
              (try simp only [Act.put, List.setIfInBounds_toArray, List.set_cons_zero, List.set_cons_succ])
              refine tr_step rfl (by rfl) (fun K hK => ?_)
              obtain ⟨u0_52, q0_52, f0_52⟩ := h8_51.get 0 (by omega)
              obtain ⟨u1_52, q1_52, f1_52⟩ := h8_51.get 1 (by omega)
              have hB52 := BC (BC hB51 g8 0 hg8 (.int .i64 (a1))) g8 1 hg8 (.int .i64 (a2))
              have h9_52 := (h9_51.set ⟨g8, 0, none⟩ (.int .i64 (a1))).set ⟨g8, 1, none⟩ (.int .i64 (a2))
              have h8_52 := two_set h8_51 (a1) (a2)
              go_simp
              clear q0_52 f0_52 q1_52 f1_52
              generalize (X51.setCell ⟨g8, 0, none⟩ (.int .i64 (a1))).setCell ⟨g8, 1, none⟩ (.int .i64 (a2)) = X52 at *
              refine hK _ _ (hSG.out _ hB52) ?_
              clear hK K hB51 h9_51 h8_51
              (try simp only [Act.put, List.setIfInBounds_toArray, List.set_cons_zero, List.set_cons_succ])
              refine tr_last rfl (by rfl) (by kernel_rfl) (fun K hK => ?_)
              obtain ⟨u0_53, q0_53, f0_53⟩ := h9_52.get 0 (by omega)
              obtain ⟨u1_53, q1_53, f1_53⟩ := h9_52.get 1 (by omega)
              have hB53 := BC (BC hB52 g9 0 hg9 (.int .i64 (b1))) g9 1 hg9 (.int .i64 (b2))
              have h8_53 := h8_52.far (g' := g9) (by omega) (b1) (b2)
              have h9_53 := two_set h9_52 (b1) (b2)
              go_simp
              clear q0_53 f0_53 q1_53 f1_53
              generalize (X52.setCell ⟨g9, 0, none⟩ (.int .i64 (b1))).setCell ⟨g9, 1, none⟩ (.int .i64 (b2)) = X53 at *
              refine hK _ _ ?_
              clear hK K hB52 h8_52 h9_52
              (try simp only [Act.put, List.setIfInBounds_toArray, List.set_cons_zero, List.set_cons_succ])
              show Exit.then _ _ Exit.normal _ _
              go_wp2_with fail
              go_meet
              exact ⟨g8, g9, rfl, rfl, h8_53, h9_53, hB53⟩
          · skip
            refine tr_step rfl (by rfl) (fun K hK => ?_)
            have hB54 := BA hB44 (.cells #[.int .i64 0, .int .i64 0] 24)
            have h9_54 := h9_44.below (newB X44 (.cells #[.int .i64 0, .int .i64 0] 24)) (h9_44.lt2)
            have hlt9_54 := h9_44.lt2
            have h8_54 := slots_new2 X44 24
            have hg8 := hB44.size
            go_simp
            generalize X44.heap.size = g8 at *
            generalize X44.alloc (.cells #[.int .i64 0, .int .i64 0] 24) = X54 at *
            refine hK _ _ (hSG.out _ hB54) ?_
            clear hK K hB44 h9_44
            (try simp only [Act.put, List.setIfInBounds_toArray, List.set_cons_zero, List.set_cons_succ])
            refine tr_step rfl (by rfl) (fun K hK => ?_)
            go_simp
            refine (hT1.out X54 hB54).mono ?_
            rintro e X55 ⟨rfl, hb55⟩
            have hB55 := BT hB54 hb55
            have h9_55 := h9_54.below hb55 (h9_54.lt2)
            have h8_55 := h8_54.below hb55 (h8_54.lt2)
            refine hK _ _ (hSG.out _ hB55) ?_
            clear hK K hB54 h9_54 h8_54 hb55
            (try simp only [Act.put, List.setIfInBounds_toArray, List.set_cons_zero, List.set_cons_succ])
            refine tr_step rfl (by rfl) (fun K hK => ?_)
            go_simp
            refine (hT2.out X55 hB55).mono ?_
            rintro e X56 ⟨rfl, hb56⟩
            have hB56 := BT hB55 hb56
            have h9_56 := h9_55.below hb56 (h9_55.lt2)
            have h8_56 := h8_55.below hb56 (h8_55.lt2)
            refine hK _ _ (hSG.out _ hB56) ?_
            clear hK K hB55 h9_55 h8_55 hb56
            (try simp only [Act.put, List.setIfInBounds_toArray, List.set_cons_zero, List.set_cons_succ])
            refine tr_step rfl (by rfl) (fun K hK => ?_)
            obtain ⟨u0_57, q0_57, f0_57⟩ := h8_56.get 0 (by omega)
            obtain ⟨u1_57, q1_57, f1_57⟩ := h8_56.get 1 (by omega)
            have hB57 := BC (BC hB56 g8 0 hg8 (.int .i64 (a1))) g8 1 hg8 (.int .i64 (a2))
            have h9_57 := (h9_56.set ⟨g8, 0, none⟩ (.int .i64 (a1))).set ⟨g8, 1, none⟩ (.int .i64 (a2))
            have h8_57 := two_set h8_56 (a1) (a2)
            go_simp
            clear q0_57 f0_57 q1_57 f1_57
            generalize (X56.setCell ⟨g8, 0, none⟩ (.int .i64 (a1))).setCell ⟨g8, 1, none⟩ (.int .i64 (a2)) = X57 at *
            refine hK _ _ (hSG.out _ hB57) ?_
            clear hK K hB56 h9_56 h8_56
            (try simp only [Act.put, List.setIfInBounds_toArray, List.set_cons_zero, List.set_cons_succ])
            refine tr_last rfl (by rfl) (by kernel_rfl) (fun K hK => ?_)
            obtain ⟨u0_58, q0_58, f0_58⟩ := h9_57.get 0 (by omega)
            obtain ⟨u1_58, q1_58, f1_58⟩ := h9_57.get 1 (by omega)
            have hB58 := BC (BC hB57 g9 0 hg9 (.int .i64 (b1))) g9 1 hg9 (.int .i64 (b2))
            have h8_58 := h8_57.far (g' := g9) (by omega) (b1) (b2)
            have h9_58 := two_set h9_57 (b1) (b2)
            go_simp
            clear q0_58 f0_58 q1_58 f1_58
            generalize (X57.setCell ⟨g9, 0, none⟩ (.int .i64 (b1))).setCell ⟨g9, 1, none⟩ (.int .i64 (b2)) = X58 at *
            refine hK _ _ ?_
            clear hK K hB57 h8_57 h9_57
            (try simp only [Act.put, List.setIfInBounds_toArray, List.set_cons_zero, List.set_cons_succ])
            show Exit.then _ _ Exit.normal _ _
            go_wp2_with fail
            go_meet
            exact ⟨g8, g9, rfl, rfl, h8_58, h9_58, hB58⟩
      case rest =>
        obtain ⟨g8, g9, rfl, rfl, h8, h9, hb⟩ := hcut
        have HT8 := Lib.hid (HTd.out.grown hb)
        clear hSG hT1 hT2 hB0 hb
        obtain ⟨e0, e1⟩ := h8
        obtain ⟨e2, e3⟩ := h9
        obtain ⟨c0, c1, c2, c3, c4, c5, c6, hbl, hsl, t0, t1, f0, f1, _⟩ := HT8.out
        by_cases hc : a1 > a2 ∨ b1 > b2
        · have hn : Hid (sumsTo ts set h.sLo h.sHi (k + 1) = none) := by
            show _ = _
            rw [hE.out, if_pos (by simpa using hc)]
          have HR1 : Hid (R = (1, 0)) := by show _ = _; rw [HS.out, sumsTo_none hn.out N (by omega)]; rfl
          obtain ⟨v0, u0, y0⟩ := hsl.get 0 (by omega)
          obtain ⟨v1, u1, y1⟩ := hsl.get 1 (by omega)
          have hwB : w.heap.size ≤ B + 1 := by omega
          clear hsl
          by_cases ha : a1 > a2
          · have d1 : decide (a1 > a2) = true := by simpa using ha
            clear hc
            go_wp2
            exact bodyPost_ret (v := .agg #[.int .i64 1, .int .i64 0]) (by simp [results, Try.results46, go_sem, u0, u1]) rfl ⟨by rw [HR1.out], by (repeat (first | assumption | exact Below.refl _ _ | refine BA ?_ _ | refine BC ?_ _ _ (by omega) _ | refine Below.drew ?_ | refine BT ?_ (by assumption)))⟩
          · have d1 : decide (a1 > a2) = false := by simpa using ha
            have d2 : decide (b1 > b2) = true := by simpa using hc.resolve_left ha
            clear hc
            go_wp2
            exact bodyPost_ret (v := .agg #[.int .i64 1, .int .i64 0]) (by simp [results, Try.results46, go_sem, u0, u1]) rfl ⟨by rw [HR1.out], by (repeat (first | assumption | exact Below.refl _ _ | refine BA ?_ _ | refine BC ?_ _ _ (by omega) _ | refine Below.drew ?_ | refine BT ?_ (by assumption)))⟩
        · have hc1 : a1 ≤ a2 := by omega
          have hc2 : b1 ≤ b2 := by omega
          have d1 : decide (a1 > a2) = false := by simp; omega
          have d2 : decide (b1 > b2) = false := by simp; omega
          obtain ⟨ml, hml⟩ : ∃ m, mxI o1 (a1 + b1) = m := ⟨_, rfl⟩
          obtain ⟨mh, hmh⟩ : ∃ m, mnI o2 (a2 + b2) = m := ⟨_, rfl⟩
          have hn : Hid (sumsTo ts set h.sLo h.sHi (k + 1) = some (ml, mh)) := by
            show _ = _
            rw [hE.out, if_neg (by simp; omega), hml, hmh]
          have k1 : (if o1 < a1 + b1 then a1 + b1 else o1) = ml := hml
          have k2 : (if a2 + b2 < o2 then a2 + b2 else o2) = mh := hmh
          clear hc hml hmh hsl hE
          go_wp2
          go_roundw
          case rel => exact ⟨k + 1, by omega, by go_num, (ml, mh), hn.out, HT8.out.put ml mh⟩
          case measure => simp [intOf]; omega
    · obtain rfl : k = N := by omega
      have HR1 : Hid (R = (o1, o2)) := by show _ = _; rw [HS.out, hok.out]; rfl
      obtain ⟨v0, u0, y0⟩ := hsl.get 0 (by omega)
      obtain ⟨v1, u1, y1⟩ := hsl.get 1 (by omega)
      clear hsl
      go_wp2
      exact bodyPost_ret (v := .agg #[.int .i64 o1, .int .i64 o2]) (by simp [results, Try.results46, go_sem, u0, u1]) rfl ⟨by rw [HR1.out], by (repeat (first | assumption | exact Below.refl _ _ | refine BA ?_ _ | refine BC ?_ _ _ (by omega) _ | refine Below.drew ?_ | refine BT ?_ (by assumption)))⟩
end Go.Proofs.Ytmfbkgdlfackcaa
