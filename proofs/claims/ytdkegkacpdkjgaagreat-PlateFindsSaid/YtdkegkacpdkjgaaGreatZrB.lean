/- Plate: PlateStars' walk. -/
import Derived.Test.YtdkegkacpdkjgaaGreatZrA
import Derived.Test.YtdkegkacpdkjgaaGreatPcl
import Derived.Test.YtdkegkacpdkjgaaGreatPbt
import Derived.Test.YtdkegkacpdkjgaaGreatPrk
import Derived.Test.YtdkegkacpdkjgaaGreatPfw
import Derived.Test.YtdkegkacpdkjgaaGreatPpp
import Derived.Test.YtdkegkacpdkjgaaGreatPpu
import Derived.Test.YtdkegkacpdkjgaaGreatPar
import Derived.Test.YtdkegkacpdkjgaaGreatPsr
namespace Go.Proofs.YtdkegkacpdkjgaaGreat
open Go.RowKit

section
variable {P : Program} {l : List Oper} {Q : Exit → Act → World → Prop} {md : Region.Mode} {S : World → Prop}
theorem tr_free {t : Tr} {a : Act} {w : World} (h : ∀ Q' : Exit → Act → World → Prop, (∀ e a w, Q e a w → Q' e a w) → wpTr P md l Q' S t a w) : wpTr P md l Q S t a w := h Q (fun _ _ _ h => h)
end
/-- The least span with what the first places of the corner tell. -/
def btTo (G : Int → Int × Int) (lo : Int) : Nat → Int × Int
  | 0 => (0, 0)
  | j + 1 => (if (lo + (j : Int) == lo) then (G (lo + j)).1 else min (btTo G lo j).1 (G (lo + j)).1, if (lo + (j : Int) == lo) then (G (lo + j)).2 else max (btTo G lo j).2 (G (lo + j)).2)
/-- How far apart two stars can be with a scale and a corner. -/
def btG (s t : St) (sc : Int) (d : Bool) (k : Int) : Int × Int := ((plcR t sc k d).1 - (plcR s sc k d).2, (plcR t sc k d).2 - (plcR s sc k d).1)
/-- .. and with any corner. -/
def btw (ss : List St) (a pn m n : Nat) (d : Bool) (sc : Int) : Int × Int :=
  btTo (btG (ss.getD m default) (ss.getD n default) sc d) (if a = 0 then (0, 0) else crR ss sc a.testBit d pn).1 ((if a = 0 then ((0, 0) : Int × Int) else crR ss sc a.testBit d pn).2 + 1 - (if a = 0 then (0, 0) else crR ss sc a.testBit d pn).1).toNat
theorem plcR_rng {s : St} {sc c : Int} {d : Bool} (ok : StOk s d) (h0 : 0 ≤ sc) (h1 : sc ≤ 1000) (c0 : -2199023255552 ≤ c) (c1 : c ≤ 2199023255552) : (-4398046511104 ≤ (plcR s sc c d).1 ∧ (plcR s sc c d).1 ≤ 4398046511104) ∧ -4398046511104 ≤ (plcR s sc c d).2 ∧ (plcR s sc c d).2 ≤ 4398046511104 := by
  have b := bey_rng ok h0 h1
  unfold plcR
  cases hk : s.k
  · simp only [Bool.false_eq_true, if_false]; omega
  · simp only [if_true]
    have e := ok.e hk
    have f := ok.f hk
    have g := ok.g hk
    omega
set_option maxRecDepth 100000 in
set_option maxHeartbeats 16000000 in
theorem between_any (p : Pl) (ss : List St) (a m n : Nat) (sc : Int) (d : Bool) (w : World) (hm : PlAt p ss w) (hk : KnO p ss a) (hm1 : m < p.n) (hn1' : n < p.n) (h0 : 1 ≤ sc) (h1 : sc ≤ 1000) :
    Calls Tryz.prog 58 #[p.val, .int .i64 (m : Int), .int .i64 (n : Int), .int .i64 sc, .bool d] w (Ret (.agg #[.int .i64 (btw ss a p.n m n d sc).1, .int .i64 (btw ss a p.n m n d sc).2]) w) := by
  have HKN : Hid (∀ Y, Below w.heap.size w Y → Calls Tryz.prog 48 #[.agg #[.int .i64 p.lo, .int .i64 p.hi, .slice p.a p.n p.cap]] Y (Ret (.int .i64 (a : Int)) Y)) := fun Y hY => by
    have h := knownR_any p ss Y (hm.below hY (Nat.le_refl _)) hk.ok.n
    rw [hk.e] at h; exact h
  have HC : Hid (∀ Y, Below w.heap.size w Y → Calls Tryz.prog 47 #[.agg #[.int .i64 p.lo, .int .i64 p.hi, .slice p.a p.n p.cap], .int .i64 (a : Int), .int .i64 sc, .bool d] Y (Ret (.agg #[.int .i64 (crR ss sc a.testBit d p.n).1, .int .i64 (crR ss sc a.testBit d p.n).2]) Y)) := fun Y hY => corner_any p ss a sc d Y (hm.below hY (Nat.le_refl _)) (fun i hi => hk.ok.st i hi d) hk.ok.n hk.ok.lt hk.ok.k (by omega) h1
  have hcr := crR_rng (ss := ss) (d := d) (R := a.testBit) (sc := sc) (by omega) h1 p.n (by have := hm.nl; omega) (fun i hi => hk.ok.st i hi d) hk.ok.k
  obtain ⟨pb, po, hpa, hpb, hcs⟩ := hm.star (i := m) (by have := hm.nl; omega)
  obtain ⟨pb', po', hpa', hpb', hct⟩ := hm.star (i := n) (by have := hm.nl; omega)
  rw [hpa] at hpa'
  injection hpa' with hpa'
  injection hpa' with ea eb
  subst ea eb
  have oks := hk.ok.st m (by have := hm.nl; omega) d
  have okt := hk.ok.st n (by have := hm.nl; omega) d
  unfold btw
  generalize crR ss sc a.testBit d p.n = cr at *
  generalize ss.getD m default = s at *
  generalize ss.getD n default = t at *
  obtain ⟨c0, c1⟩ := cr
  dsimp only at hcr HC ⊢
  have HP0 : Hid (∀ c Y, -2199023255552 ≤ c → c ≤ 2199023255552 → Calls Tryz.prog 114 #[.agg s.cells, .int .i64 sc, .int .i64 c, .bool d] Y (Ret (.agg #[.int .i64 (plcR s sc c d).1, .int .i64 (plcR s sc c d).2]) Y)) := fun c Y q0 q1 => placeRR_any s sc c d Y oks (by omega) h1 q0 q1
  have HP1 : Hid (∀ c Y, -2199023255552 ≤ c → c ≤ 2199023255552 → Calls Tryz.prog 114 #[.agg t.cells, .int .i64 sc, .int .i64 c, .bool d] Y (Ret (.agg #[.int .i64 (plcR t sc c d).1, .int .i64 (plcR t sc c d).2]) Y)) := fun c Y q0 q1 => placeRR_any t sc c d Y okt (by omega) h1 q0 q1
  have HR0 : Hid (∀ c, -2199023255552 ≤ c → c ≤ 2199023255552 → (-4398046511104 ≤ (plcR s sc c d).1 ∧ (plcR s sc c d).1 ≤ 4398046511104) ∧ -4398046511104 ≤ (plcR s sc c d).2 ∧ (plcR s sc c d).2 ≤ 4398046511104) := fun c q0 q1 => plcR_rng oks (by omega) h1 q0 q1
  have HR1 : Hid (∀ c, -2199023255552 ≤ c → c ≤ 2199023255552 → (-4398046511104 ≤ (plcR t sc c d).1 ∧ (plcR t sc c d).1 ≤ 4398046511104) ∧ -4398046511104 ≤ (plcR t sc c d).2 ∧ (plcR t sc c d).2 ≤ 4398046511104) := fun c q0 q1 => plcR_rng okt (by omega) h1 q0 q1
  obtain ⟨G, hG⟩ : ∃ G, btG s t sc d = G := ⟨_, rfl⟩
  have HG : Hid (∀ k, G k = ((plcR t sc k d).1 - (plcR s sc k d).2, (plcR t sc k d).2 - (plcR s sc k d).1)) := fun k => by rw [← hG]; rfl
  rw [hG]
  clear hG oks okt
  obtain ⟨C0, C1, hCC, hCr⟩ : ∃ C0 C1 : Int, (if a = 0 then ((0, 0) : Int × Int) else (c0, c1)) = (C0, C1) ∧ (-1099511627776 ≤ C0 ∧ C0 ≤ 1048576) ∧ -1081344 ≤ C1 ∧ C1 ≤ 1099511627776 := by
    by_cases ha : a = 0
    · exact ⟨0, 0, by rw [if_pos ha], by omega, by omega⟩
    · exact ⟨c0, c1, by rw [if_neg ha], by omega, by omega⟩
  rw [hCC]
  dsimp only
  have HCC := Lib.hid hCC
  clear hCC hcr
  obtain ⟨W0, hW0⟩ : ∃ X, (w.alloc (.cells #[.int .i64 p.lo, .int .i64 p.hi, .slice p.a p.n p.cap] 26)).alloc (.cells #[.int .i64 0, .int .i64 0] 23) = X := ⟨_, rfl⟩
  have hB0 : Below w.heap.size w W0 := by rw [← hW0]; exact BA (newB _ _) _
  have hQ : BoxP W0 w.heap.size p := by rw [← hW0]; exact (boxP_new w p _).grown (newB _ _)
  have hR : Slots (w.heap.size + 1) 2 W0 := by have := slots_new2r (w.alloc (.cells #[.int .i64 p.lo, .int .i64 p.hi, .slice p.a p.n p.cap] 26)) 23; rw [World.size_alloc, hW0] at this; exact this
  have hl0 := hR.lt2r
  have hl1 : w.heap.size < W0.heap.size := by omega
  have HB0 := Lib.hid hB0
  have HS := Lib.hid hR
  have hn0 : (0 : Int) ≤ (n : Int) := by omega
  have hn1 : (n : Int) < (p.n : Int) := by omega
  have hm0 : (0 : Int) ≤ (m : Int) := by omega
  have hm2 : (m : Int) < (p.n : Int) := by omega
  have ha0 : (0 : Int) ≤ (a : Int) := by omega
  unfold Pl.val
  have hc2 := hQ.c2
  rw [hpa] at hc2
  have hI : Hid (∀ Y, Below W0.heap.size W0 Y → Y.cell? ⟨w.heap.size, 0, none⟩ = some (.int .i64 p.lo) ∧ Y.cell? ⟨w.heap.size, 1, none⟩ = some (.int .i64 p.hi) ∧ Y.cell? ⟨w.heap.size, 2, none⟩ = some (.slice p.a p.n p.cap)) := fun Y hY => by
    obtain ⟨z0, z1, z2⟩ := hQ.grown hY
    exact ⟨z0, z1, z2⟩
  have HSS : Hid (∀ Y, Below W0.heap.size W0 Y → StAt s pb (po + m * 9) Y) := fun Y hY => hcs.below (HB0.out.trans (hY.mono HB0.out.size)) hpb
  have HST : Hid (∀ Y, Below W0.heap.size W0 Y → StAt t pb (po + n * 9) Y) := fun Y hY => hct.below (HB0.out.trans (hY.mono HB0.out.size)) hpb
  have HC2 := Lib.hid hc2
  clear hm hk hpa hpb hpb' hct hcs hQ hR hc2 hB0 hm1 hn1'
  go_enter Tryz.func58, Tryz.ntmps58
  go_upto_region 1 with fail
  clear hW0
  have hb0 : Below W0.heap.size W0 W0.drew := Below.drew (Below.refl _ _)
  go_cut [11] from 16 to 21 (fun x X => ∃ P : Nat, x = .pointer (some ⟨P, 0, none⟩) ∧ W0.heap.size ≤ P ∧ Spn2 X P c0 c1 ∧ Below W0.heap.size W0 X)
  case first =>
    refine wp_region_tree (.read 0 (.read 1 (.read 3 (.read 4 (.two 2 (.two 5 (.one 6 (.one 7 (.leaf))) 6 (.one 5 (.one 7 (.leaf)))) 6 (.one 2 (.one 5 (.one 7 (.leaf))))))))) (fun Y => Y.cell? ⟨w.heap.size, 0, none⟩ = some (.int .i64 p.lo) ∧ Y.cell? ⟨w.heap.size, 1, none⟩ = some (.int .i64 p.hi) ∧ Y.cell? ⟨w.heap.size, 2, none⟩ = some (.slice p.a p.n p.cap)) (by kernel_rfl) (by kernel_rfl) (fun _ _ d _ _ h => by cases d <;> exact h) (hI.out _ hb0) ?_
    generalize W0.drew = Y0 at *
    repeat (first | (refine tr_read rfl (by rfl) _ (fun w' hS => by (try dsimp only at hS); go_simp; (try with_reducible rfl)) ?_; (try simp only [Act.put, List.setIfInBounds_toArray, List.set_cons_zero, List.set_cons_succ])) | (refine tr_skip rfl (by rfl) ?_; (try simp only [Act.put, List.setIfInBounds_toArray, List.set_cons_zero, List.set_cons_succ])))
    refine ⟨?_, ?_⟩
    · skip
      refine tr_step rfl (by rfl) (fun K hK => ?_)
      go_simp
      refine (HKN.out Y0 (HB0.out.trans (hb0.mono HB0.out.size))).mono ?_
      rintro e Y1 ⟨rfl, hx⟩
      have hb1 := BT hb0 hx
      refine hK _ _ (hI.out _ hb1) ?_
      clear hK K hx hb0
      (try simp only [Act.put, List.setIfInBounds_toArray, List.set_cons_zero, List.set_cons_succ])
      refine ⟨?_, ?_⟩
      · skip
        refine tr_step rfl (by rfl) (fun K hK => ?_)
        go_simp
        refine (HC.out Y1 (HB0.out.trans (hb1.mono HB0.out.size))).mono ?_
        rintro e Y2 ⟨rfl, hx⟩
        have hb2 := BT hb1 hx
        refine hK _ _ (hI.out _ hb2) ?_
        clear hK K hx hb1
        (try simp only [Act.put, List.setIfInBounds_toArray, List.set_cons_zero, List.set_cons_succ])
        refine tr_step rfl (by rfl) (fun K hK => ?_)
        have hx := newB Y2 (.cells #[.int .i64 0, .int .i64 0] 23)
        have hs6 := slots_new2r Y2 23
        have hb3 := BT hb2 hx
        have hge6 := hb2.size
        go_simp
        refine hK _ _ (hI.out _ hb3) ?_
        clear hK K hx hb2
        generalize Y2.heap.size = g6 at *
        generalize Y2.alloc (.cells #[.int .i64 0, .int .i64 0] 23) = Y3 at *
        (try simp only [Act.put, List.setIfInBounds_toArray, List.set_cons_zero, List.set_cons_succ])
        refine tr_step rfl (by rfl) (fun K hK => ?_)
        have ka := spn2_slots hs6 c0 c1
        have hb4 := BC (BC hb3 g6 0 hge6 (.int .i64 c0)) g6 1 hge6 (.int .i64 c1)
        obtain ⟨u0, q0, f0⟩ := hs6.get 0 (by omega)
        obtain ⟨u1, q1, f1⟩ := hs6.get 1 (by omega)
        go_simp
        refine hK _ _ (hI.out _ hb4) ?_
        clear hK K u0 q0 f0 u1 q1 f1 hs6 hb3
        generalize (Y3.setCell ⟨g6, 0, none⟩ (.int .i64 c0)).setCell ⟨g6, 1, none⟩ (.int .i64 c1) = Y4 at *
        (try simp only [Act.put, List.setIfInBounds_toArray, List.set_cons_zero, List.set_cons_succ])
        show Exit.then _ _ Exit.normal _ _
        go_wp2_with fail
        go_meet
        exact ⟨g6, rfl, hge6, ka, hb4⟩
      · skip
        refine tr_step rfl (by rfl) (fun K hK => ?_)
        have hx := newB Y1 (.cells #[.int .i64 0, .int .i64 0] 23)
        have hs6 := slots_new2r Y1 23
        have hb5 := BT hb1 hx
        have hge6 := hb1.size
        go_simp
        refine hK _ _ (hI.out _ hb5) ?_
        clear hK K hx hb1
        generalize Y1.heap.size = g6 at *
        generalize Y1.alloc (.cells #[.int .i64 0, .int .i64 0] 23) = Y5 at *
        (try simp only [Act.put, List.setIfInBounds_toArray, List.set_cons_zero, List.set_cons_succ])
        refine tr_step rfl (by rfl) (fun K hK => ?_)
        go_simp
        refine (HC.out Y5 (HB0.out.trans (hb5.mono HB0.out.size))).mono ?_
        rintro e Y6 ⟨rfl, hx⟩
        have hb6 := BT hb5 hx
        replace hs6 := hs6.below hx hs6.lt2r
        refine hK _ _ (hI.out _ hb6) ?_
        clear hK K hx hb5
        (try simp only [Act.put, List.setIfInBounds_toArray, List.set_cons_zero, List.set_cons_succ])
        refine tr_step rfl (by rfl) (fun K hK => ?_)
        have ka := spn2_slots hs6 c0 c1
        have hb7 := BC (BC hb6 g6 0 hge6 (.int .i64 c0)) g6 1 hge6 (.int .i64 c1)
        obtain ⟨u0, q0, f0⟩ := hs6.get 0 (by omega)
        obtain ⟨u1, q1, f1⟩ := hs6.get 1 (by omega)
        go_simp
        refine hK _ _ (hI.out _ hb7) ?_
        clear hK K u0 q0 f0 u1 q1 f1 hs6 hb6
        generalize (Y6.setCell ⟨g6, 0, none⟩ (.int .i64 c0)).setCell ⟨g6, 1, none⟩ (.int .i64 c1) = Y7 at *
        (try simp only [Act.put, List.setIfInBounds_toArray, List.set_cons_zero, List.set_cons_succ])
        show Exit.then _ _ Exit.normal _ _
        go_wp2_with fail
        go_meet
        exact ⟨g6, rfl, hge6, ka, hb7⟩
    · skip
      refine tr_step rfl (by rfl) (fun K hK => ?_)
      have hx := newB Y0 (.cells #[.int .i64 0, .int .i64 0] 23)
      have hs6 := slots_new2r Y0 23
      have hb8 := BT hb0 hx
      have hge6 := hb0.size
      go_simp
      refine hK _ _ (hI.out _ hb8) ?_
      clear hK K hx hb0
      generalize Y0.heap.size = g6 at *
      generalize Y0.alloc (.cells #[.int .i64 0, .int .i64 0] 23) = Y8 at *
      (try simp only [Act.put, List.setIfInBounds_toArray, List.set_cons_zero, List.set_cons_succ])
      refine tr_step rfl (by rfl) (fun K hK => ?_)
      go_simp
      refine (HKN.out Y8 (HB0.out.trans (hb8.mono HB0.out.size))).mono ?_
      rintro e Y9 ⟨rfl, hx⟩
      have hb9 := BT hb8 hx
      replace hs6 := hs6.below hx hs6.lt2r
      refine hK _ _ (hI.out _ hb9) ?_
      clear hK K hx hb8
      (try simp only [Act.put, List.setIfInBounds_toArray, List.set_cons_zero, List.set_cons_succ])
      refine tr_step rfl (by rfl) (fun K hK => ?_)
      go_simp
      refine (HC.out Y9 (HB0.out.trans (hb9.mono HB0.out.size))).mono ?_
      rintro e Y10 ⟨rfl, hx⟩
      have hb10 := BT hb9 hx
      replace hs6 := hs6.below hx hs6.lt2r
      refine hK _ _ (hI.out _ hb10) ?_
      clear hK K hx hb9
      (try simp only [Act.put, List.setIfInBounds_toArray, List.set_cons_zero, List.set_cons_succ])
      refine tr_step rfl (by rfl) (fun K hK => ?_)
      have ka := spn2_slots hs6 c0 c1
      have hb11 := BC (BC hb10 g6 0 hge6 (.int .i64 c0)) g6 1 hge6 (.int .i64 c1)
      obtain ⟨u0, q0, f0⟩ := hs6.get 0 (by omega)
      obtain ⟨u1, q1, f1⟩ := hs6.get 1 (by omega)
      go_simp
      refine hK _ _ (hI.out _ hb11) ?_
      clear hK K u0 q0 f0 u1 q1 f1 hs6 hb10
      generalize (Y10.setCell ⟨g6, 0, none⟩ (.int .i64 c0)).setCell ⟨g6, 1, none⟩ (.int .i64 c1) = Y11 at *
      (try simp only [Act.put, List.setIfInBounds_toArray, List.set_cons_zero, List.set_cons_succ])
      show Exit.then _ _ Exit.normal _ _
      go_wp2_with fail
      go_meet
      exact ⟨g6, rfl, hge6, ka, hb11⟩
  case rest =>
    obtain ⟨P, rfl, hgP, ka, hb⟩ := hcut
    obtain ⟨X1, rfl⟩ : ∃ X1 : World, X1 = wc := ⟨_, rfl⟩
    clear hb0
    obtain ⟨i0, i1, i2⟩ := hI.out X1 hb
    go_upto_region 2 with fail
    go_cut [24] from 22 to 24 (fun u X => u = .bool ((a : Int) == 0) ∧ Spn2 X P c0 c1 ∧ Below W0.heap.size W0 X)
    case first =>
      go_wp2_with fail
      clear i0 i1 i2
      refine (HKN.out X1 (BT HB0.out hb)).mono ?_
      rintro e X2 ⟨rfl, hx⟩
      have hb := BT hb hx
      replace ka := ka.grown hx
      clear hx
      go_wp2_with fail
      go_meet
      exact ⟨rfl, ka, hb⟩
    case rest =>
    obtain ⟨rfl, ka1, hb1⟩ := hcut
    clear ka hb i0 i1 i2
    obtain ⟨X2, rfl⟩ : ∃ X2 : World, X2 = wc := ⟨_, rfl⟩
    go_upto_if 24 with fail
    go_cut [24] from 25 to 25 (fun u X => Spn2 X P C0 C1 ∧ Below W0.heap.size W0 X)
    case first =>
      have hcc := HCC.out
      by_cases ha : a = 0
      · rw [if_pos ha] at hcc
        injection hcc with e0 e1
        subst e0 e1 ha
        obtain ⟨q0, q1, q2, q3⟩ := id ka1
        have hb3 := BC (BC hb1 P 0 hgP (.int .i64 0)) P 1 hgP (.int .i64 0)
        have ka3 := ka1.set 0 0
        go_wp2_with fail
        go_meet
        exact ⟨ka3, hb3⟩
      · rw [if_neg ha] at hcc
        injection hcc with e0 e1
        subst e0 e1
        have ha1 : ¬ (a : Int) = 0 := by omega
        have ha2 : ((a : Int) == 0) = false := by simpa using ha
        go_wp2_with fail
        go_meet
        exact ⟨ka1, hb1⟩
    case rest =>
    obtain ⟨ka3, hb3⟩ := hcut
    clear ka1 hb1
    obtain ⟨X3, rfl⟩ : ∃ X3 : World, X3 = wc := ⟨_, rfl⟩
    have hP2 : P < X3.heap.size := World.block_lt_of_cell? _ _ ka3.c0
    have hx := newB X3 (.cells #[.int .i64 0, .int .i64 0] 23)
    have so := spn2_new X3 0 0 23
    have hge := hb3.size
    have hb' := BT hb3 hx
    have ka' := ka3.grown hx
    have hPO : P ≠ X3.heap.size := by omega
    obtain ⟨W2, hW2⟩ : ∃ X, X3.alloc (.cells #[.int .i64 0, .int .i64 0] 23) = X := ⟨_, rfl⟩
    rw [hW2] at so hb' ka'
    have so2 := so
    obtain ⟨r0, r1, r2, r3⟩ := id so
    obtain ⟨q0, q1, -, -⟩ := id ka'
    clear hx so hb3 ka3
    go_wp2_with fail
    clear hW2 q0 q1 r0 r1 r2 r3
    generalize X3.heap.size = O at *
    clear hP2
    obtain ⟨N, hN⟩ : ∃ N, (C1 + 1 - C0).toNat = N := ⟨_, rfl⟩
    rw [hN]
    clear HCC HKN HC hI
    go_loopw [13] (fun i wz => ∃ (j : Nat) (kk : Int), j ≤ N ∧ kk = C0 + j ∧ i = .int .i64 kk ∧ Spn2 wz P C0 C1 ∧ Spn2 wz O (btTo G C0 j).1 (btTo G C0 j).2 ∧ Below W0.heap.size W0 wz) (fun i _ => N - (intOf i - C0).toNat)
    case atStart => exact ⟨0, C0, by omega, by omega, rfl, (ka'.put hPO 0 (.int .i64 0)).put hPO 1 (.int .i64 0), so2.set 0 0, BC (BC hb' O 0 hge (.int .i64 0)) O 1 hge (.int .i64 0)⟩
    case round =>
      clear so2 hb' ka'
      obtain ⟨j, kk, hj, hkk, rfl, ka', so, hx⟩ := hrel
      obtain ⟨wo, rfl⟩ : ∃ wo : World, wo = wr := ⟨_, rfl⟩
      obtain ⟨q0, q1, -, -⟩ := id ka'
      by_cases hlt : j < N
      · have hkc : kk ≤ C1 := by omega
        have hk0 : -2199023255552 ≤ kk := by omega
        have hk1 : kk ≤ 2199023255552 := by omega
        have HX := Lib.hid (fun Y => HP0.out kk Y hk0 hk1)
        have HY := Lib.hid (fun Y => HP1.out kk Y hk0 hk1)
        have rx := HR0.out kk hk0 hk1
        have ry := HR1.out kk hk0 hk1
        have hg := HG.out kk
        generalize plcR s sc kk d = x at *
        generalize plcR t sc kk d = y at *
        obtain ⟨x0, x1⟩ := x
        obtain ⟨y0, y1⟩ := y
        dsimp only at hg rx ry HX HY
        have hw0 : IntKind.i64.wrap (y0 - x1) = y0 - x1 := IntWalk.i64_in _ (by omega)
        have hw1 : IntKind.i64.wrap (y1 - x0) = y1 - x0 := IntWalk.i64_in _ (by omega)
        have hw2 : IntKind.i64.wrap (kk + 1) = kk + 1 := IntWalk.i64_in _ (by omega)
        have hst : btTo G C0 (j + 1) = (if (kk == C0) then y0 - x1 else min (btTo G C0 j).1 (y0 - x1), if (kk == C0) then y1 - x0 else max (btTo G C0 j).2 (y1 - x0)) := by
          show (_, _) = _
          rw [← hkk, hg]
        have HST2 := Lib.hid hst
        have HKK := Lib.hid hkk
        clear hst hg rx ry hkk
        generalize (btTo G C0 j) = o at *
        obtain ⟨o0, o1⟩ := o
        dsimp only at so HST2
        have hbW : Below W0.heap.size W0 wo := hx
        have HI8 : Hid (∀ Y, Below wo.heap.size wo Y → Y.cell? ⟨w.heap.size, 2, none⟩ = some (.slice (some ⟨pb, po, none⟩) p.n p.cap) ∧ Y.cell? ⟨pb, po + m * 9, none⟩ = some (.int .i64 s.x0) ∧ Y.cell? ⟨pb, po + m * 9 + 1, none⟩ = some (.int .i64 s.x1) ∧ Y.cell? ⟨pb, po + m * 9 + 2, none⟩ = some (.int .i64 s.y0) ∧ Y.cell? ⟨pb, po + m * 9 + 3, none⟩ = some (.int .i64 s.y1) ∧ Y.cell? ⟨pb, po + m * 9 + 4, none⟩ = some (.bool s.k) ∧ Y.cell? ⟨pb, po + m * 9 + 5, none⟩ = some (.int .i64 s.e0) ∧ Y.cell? ⟨pb, po + m * 9 + 6, none⟩ = some (.int .i64 s.e1) ∧ Y.cell? ⟨pb, po + m * 9 + 7, none⟩ = some (.int .i64 s.n0) ∧ Y.cell? ⟨pb, po + m * 9 + 8, none⟩ = some (.int .i64 s.n1) ∧ Y.cell? ⟨pb, po + n * 9, none⟩ = some (.int .i64 t.x0) ∧ Y.cell? ⟨pb, po + n * 9 + 1, none⟩ = some (.int .i64 t.x1) ∧ Y.cell? ⟨pb, po + n * 9 + 2, none⟩ = some (.int .i64 t.y0) ∧ Y.cell? ⟨pb, po + n * 9 + 3, none⟩ = some (.int .i64 t.y1) ∧ Y.cell? ⟨pb, po + n * 9 + 4, none⟩ = some (.bool t.k) ∧ Y.cell? ⟨pb, po + n * 9 + 5, none⟩ = some (.int .i64 t.e0) ∧ Y.cell? ⟨pb, po + n * 9 + 6, none⟩ = some (.int .i64 t.e1) ∧ Y.cell? ⟨pb, po + n * 9 + 7, none⟩ = some (.int .i64 t.n0) ∧ Y.cell? ⟨pb, po + n * 9 + 8, none⟩ = some (.int .i64 t.n1)) := fun Y hY => by
          obtain ⟨z0, z1, z2, z3, z4, z5, z6, z7, z8⟩ := HSS.out Y (BT hbW hY)
          obtain ⟨y0, y1, y2, y3, y4, y5, y6, y7, y8⟩ := HST.out Y (BT hbW hY)
          exact ⟨cellB HC2.out (BT hbW hY), z0, z1, z2, z3, z4, z5, z6, z7, z8, y0, y1, y2, y3, y4, y5, y6, y7, y8⟩
        have hb0 : Below wo.heap.size wo wo.drew := Below.drew (Below.refl _ _)
        go_upto_region 8 with fail
        go_cut [14, 15] from 35 to 52 (fun u v X => ∃ A B : Nat, u = .pointer (some ⟨A, 0, none⟩) ∧ v = .pointer (some ⟨B, 0, none⟩) ∧ Spn2 X A x0 x1 ∧ Spn2 X B y0 y1 ∧ Below wo.heap.size wo X)
        case first =>
          clear q0 q1
          refine wp_region_tree (.read 0 (.read 1 (.read 2 (.read 3 (.read 4 (.read 5 (.read 6 (.read 7 (.read 9 (.read 10 (.read 11 (.read 12 (.read 13 (.read 14 (.read 15 (.read 16 (.three 8 (.three 17 (.two 18 (.one 19 (.one 20 (.one 21 (.leaf)))) 19 (.one 18 (.one 20 (.one 21 (.leaf))))) 18 (.two 17 (.one 19 (.one 20 (.one 21 (.leaf)))) 19 (.one 17 (.one 20 (.one 21 (.leaf))))) 19 (.two 17 (.one 18 (.one 20 (.one 21 (.leaf)))) 18 (.one 17 (.one 20 (.one 21 (.leaf)))))) 18 (.two 8 (.two 17 (.one 19 (.one 20 (.one 21 (.leaf)))) 19 (.one 17 (.one 20 (.one 21 (.leaf))))) 19 (.one 8 (.one 17 (.one 20 (.one 21 (.leaf)))))) 19 (.two 8 (.two 17 (.one 18 (.one 20 (.one 21 (.leaf)))) 18 (.one 17 (.one 20 (.one 21 (.leaf))))) 18 (.one 8 (.one 17 (.one 20 (.one 21 (.leaf))))))))))))))))))))))) (fun Y => Y.cell? ⟨w.heap.size, 2, none⟩ = some (.slice (some ⟨pb, po, none⟩) p.n p.cap) ∧ Y.cell? ⟨pb, po + m * 9, none⟩ = some (.int .i64 s.x0) ∧ Y.cell? ⟨pb, po + m * 9 + 1, none⟩ = some (.int .i64 s.x1) ∧ Y.cell? ⟨pb, po + m * 9 + 2, none⟩ = some (.int .i64 s.y0) ∧ Y.cell? ⟨pb, po + m * 9 + 3, none⟩ = some (.int .i64 s.y1) ∧ Y.cell? ⟨pb, po + m * 9 + 4, none⟩ = some (.bool s.k) ∧ Y.cell? ⟨pb, po + m * 9 + 5, none⟩ = some (.int .i64 s.e0) ∧ Y.cell? ⟨pb, po + m * 9 + 6, none⟩ = some (.int .i64 s.e1) ∧ Y.cell? ⟨pb, po + m * 9 + 7, none⟩ = some (.int .i64 s.n0) ∧ Y.cell? ⟨pb, po + m * 9 + 8, none⟩ = some (.int .i64 s.n1) ∧ Y.cell? ⟨pb, po + n * 9, none⟩ = some (.int .i64 t.x0) ∧ Y.cell? ⟨pb, po + n * 9 + 1, none⟩ = some (.int .i64 t.x1) ∧ Y.cell? ⟨pb, po + n * 9 + 2, none⟩ = some (.int .i64 t.y0) ∧ Y.cell? ⟨pb, po + n * 9 + 3, none⟩ = some (.int .i64 t.y1) ∧ Y.cell? ⟨pb, po + n * 9 + 4, none⟩ = some (.bool t.k) ∧ Y.cell? ⟨pb, po + n * 9 + 5, none⟩ = some (.int .i64 t.e0) ∧ Y.cell? ⟨pb, po + n * 9 + 6, none⟩ = some (.int .i64 t.e1) ∧ Y.cell? ⟨pb, po + n * 9 + 7, none⟩ = some (.int .i64 t.n0) ∧ Y.cell? ⟨pb, po + n * 9 + 8, none⟩ = some (.int .i64 t.n1)) (by kernel_rfl) (by kernel_rfl) (fun _ _ d _ _ h => by cases d <;> exact h) (HI8.out _ hb0) ?_
          refine tr_free (fun Q HQ => ?_)
          generalize wo.drew = Y0 at *
          repeat (first | (refine tr_read rfl (by rfl) _ (fun w' hS => by (try dsimp only at hS); go_simp; (try with_reducible rfl)) ?_; (try simp only [Act.put, List.setIfInBounds_toArray, List.set_cons_zero, List.set_cons_succ])) | (refine tr_skip rfl (by rfl) ?_; (try simp only [Act.put, List.setIfInBounds_toArray, List.set_cons_zero, List.set_cons_succ])))
          refine ⟨?_, ?_, ?_⟩
          · skip
            refine tr_step rfl (by rfl) (fun K hK => ?_)
            go_simp
            refine (HX.out Y0).mono ?_
            rintro e Y1 ⟨rfl, hx8⟩
            have hb1 := BT hb0 hx8
            refine hK _ _ (HI8.out _ hb1) ?_
            clear hK K hx8 hb0
            (try simp only [Act.put, List.setIfInBounds_toArray, List.set_cons_zero, List.set_cons_succ])
            refine ⟨?_, ?_, ?_⟩
            · skip
              refine tr_step rfl (by rfl) (fun K hK => ?_)
              go_simp
              refine (HY.out Y1).mono ?_
              rintro e Y2 ⟨rfl, hx8⟩
              have hb2 := BT hb1 hx8
              refine hK _ _ (HI8.out _ hb2) ?_
              clear hK K hx8 hb1
              (try simp only [Act.put, List.setIfInBounds_toArray, List.set_cons_zero, List.set_cons_succ])
              refine ⟨?_, ?_⟩
              · skip
                refine tr_step rfl (by rfl) (fun K hK => ?_)
                have hx8 := newB Y2 (.cells #[.int .i64 0, .int .i64 0] 23)
                have hs18 := slots_new2r Y2 23
                have hb3 := BT hb2 hx8
                have hge18 := hb2.size
                go_simp
                refine hK _ _ (HI8.out _ hb3) ?_
                clear hK K hx8 hb2
                generalize Y2.heap.size = g18 at *
                generalize Y2.alloc (.cells #[.int .i64 0, .int .i64 0] 23) = Y3 at *
                (try simp only [Act.put, List.setIfInBounds_toArray, List.set_cons_zero, List.set_cons_succ])
                refine tr_step rfl (by rfl) (fun K hK => ?_)
                have hx8 := newB Y3 (.cells #[.int .i64 0, .int .i64 0] 23)
                have hs19 := slots_new2r Y3 23
                have hb4 := BT hb3 hx8
                have hge19 := hb3.size
                have hlt18 := hs18.lt2r
                replace hs18 := hs18.below hx8 hlt18
                go_simp
                refine hK _ _ (HI8.out _ hb4) ?_
                clear hK K hx8 hb3
                generalize Y3.heap.size = g19 at *
                generalize Y3.alloc (.cells #[.int .i64 0, .int .i64 0] 23) = Y4 at *
                (try simp only [Act.put, List.setIfInBounds_toArray, List.set_cons_zero, List.set_cons_succ])
                refine tr_step rfl (by rfl) (fun K hK => ?_)
                have ka := spn2_slots hs18 x0 x1
                have hb5 := BC (BC hb4 g18 0 hge18 (.int .i64 x0)) g18 1 hge18 (.int .i64 x1)
                obtain ⟨u0, q0, f0⟩ := hs18.get 0 (by omega)
                obtain ⟨u1, q1, f1⟩ := hs18.get 1 (by omega)
                have hs19 := (hs19.set ⟨g18, 0, none⟩ (.int .i64 x0)).set ⟨g18, 1, none⟩ (.int .i64 x1)
                have hne : g18 ≠ g19 := by omega
                go_simp
                refine hK _ _ (HI8.out _ hb5) ?_
                clear hK K u0 q0 f0 u1 q1 f1 hs18 hb4
                generalize (Y4.setCell ⟨g18, 0, none⟩ (.int .i64 x0)).setCell ⟨g18, 1, none⟩ (.int .i64 x1) = Y5 at *
                (try simp only [Act.put, List.setIfInBounds_toArray, List.set_cons_zero, List.set_cons_succ])
                refine tr_step rfl (by rfl) (fun K hK => ?_)
                have kb := spn2_slots hs19 y0 y1
                have hb6 := BC (BC hb5 g19 0 hge19 (.int .i64 y0)) g19 1 hge19 (.int .i64 y1)
                obtain ⟨u0, q0, f0⟩ := hs19.get 0 (by omega)
                obtain ⟨u1, q1, f1⟩ := hs19.get 1 (by omega)
                have ka := (ka.put hne 0 (.int .i64 y0)).put hne 1 (.int .i64 y1)
                go_simp
                refine hK _ _ (HI8.out _ hb6) ?_
                clear hK K u0 q0 f0 u1 q1 f1 hs19 hb5
                generalize (Y5.setCell ⟨g19, 0, none⟩ (.int .i64 y0)).setCell ⟨g19, 1, none⟩ (.int .i64 y1) = Y6 at *
                (try simp only [Act.put, List.setIfInBounds_toArray, List.set_cons_zero, List.set_cons_succ])
                refine HQ _ _ _ ?_
                show Exit.then _ _ Exit.normal _ _
                go_wp2_with fail
                go_meet
                exact ⟨g18, g19, rfl, rfl, ka, kb, hb6⟩
              · skip
                refine tr_step rfl (by rfl) (fun K hK => ?_)
                have hx8 := newB Y2 (.cells #[.int .i64 0, .int .i64 0] 23)
                have hs19 := slots_new2r Y2 23
                have hb7 := BT hb2 hx8
                have hge19 := hb2.size
                go_simp
                refine hK _ _ (HI8.out _ hb7) ?_
                clear hK K hx8 hb2
                generalize Y2.heap.size = g19 at *
                generalize Y2.alloc (.cells #[.int .i64 0, .int .i64 0] 23) = Y7 at *
                (try simp only [Act.put, List.setIfInBounds_toArray, List.set_cons_zero, List.set_cons_succ])
                refine tr_step rfl (by rfl) (fun K hK => ?_)
                have hx8 := newB Y7 (.cells #[.int .i64 0, .int .i64 0] 23)
                have hs18 := slots_new2r Y7 23
                have hb8 := BT hb7 hx8
                have hge18 := hb7.size
                have hlt19 := hs19.lt2r
                replace hs19 := hs19.below hx8 hlt19
                go_simp
                refine hK _ _ (HI8.out _ hb8) ?_
                clear hK K hx8 hb7
                generalize Y7.heap.size = g18 at *
                generalize Y7.alloc (.cells #[.int .i64 0, .int .i64 0] 23) = Y8 at *
                (try simp only [Act.put, List.setIfInBounds_toArray, List.set_cons_zero, List.set_cons_succ])
                refine tr_step rfl (by rfl) (fun K hK => ?_)
                have ka := spn2_slots hs18 x0 x1
                have hb9 := BC (BC hb8 g18 0 hge18 (.int .i64 x0)) g18 1 hge18 (.int .i64 x1)
                obtain ⟨u0, q0, f0⟩ := hs18.get 0 (by omega)
                obtain ⟨u1, q1, f1⟩ := hs18.get 1 (by omega)
                have hs19 := (hs19.set ⟨g18, 0, none⟩ (.int .i64 x0)).set ⟨g18, 1, none⟩ (.int .i64 x1)
                have hne : g18 ≠ g19 := by omega
                go_simp
                refine hK _ _ (HI8.out _ hb9) ?_
                clear hK K u0 q0 f0 u1 q1 f1 hs18 hb8
                generalize (Y8.setCell ⟨g18, 0, none⟩ (.int .i64 x0)).setCell ⟨g18, 1, none⟩ (.int .i64 x1) = Y9 at *
                (try simp only [Act.put, List.setIfInBounds_toArray, List.set_cons_zero, List.set_cons_succ])
                refine tr_step rfl (by rfl) (fun K hK => ?_)
                have kb := spn2_slots hs19 y0 y1
                have hb10 := BC (BC hb9 g19 0 hge19 (.int .i64 y0)) g19 1 hge19 (.int .i64 y1)
                obtain ⟨u0, q0, f0⟩ := hs19.get 0 (by omega)
                obtain ⟨u1, q1, f1⟩ := hs19.get 1 (by omega)
                have ka := (ka.put hne 0 (.int .i64 y0)).put hne 1 (.int .i64 y1)
                go_simp
                refine hK _ _ (HI8.out _ hb10) ?_
                clear hK K u0 q0 f0 u1 q1 f1 hs19 hb9
                generalize (Y9.setCell ⟨g19, 0, none⟩ (.int .i64 y0)).setCell ⟨g19, 1, none⟩ (.int .i64 y1) = Y10 at *
                (try simp only [Act.put, List.setIfInBounds_toArray, List.set_cons_zero, List.set_cons_succ])
                refine HQ _ _ _ ?_
                show Exit.then _ _ Exit.normal _ _
                go_wp2_with fail
                go_meet
                exact ⟨g18, g19, rfl, rfl, ka, kb, hb10⟩
            · skip
              refine tr_step rfl (by rfl) (fun K hK => ?_)
              have hx8 := newB Y1 (.cells #[.int .i64 0, .int .i64 0] 23)
              have hs18 := slots_new2r Y1 23
              have hb11 := BT hb1 hx8
              have hge18 := hb1.size
              go_simp
              refine hK _ _ (HI8.out _ hb11) ?_
              clear hK K hx8 hb1
              generalize Y1.heap.size = g18 at *
              generalize Y1.alloc (.cells #[.int .i64 0, .int .i64 0] 23) = Y11 at *
              (try simp only [Act.put, List.setIfInBounds_toArray, List.set_cons_zero, List.set_cons_succ])
              refine ⟨?_, ?_⟩
              · skip
                refine tr_step rfl (by rfl) (fun K hK => ?_)
                go_simp
                refine (HY.out Y11).mono ?_
                rintro e Y12 ⟨rfl, hx8⟩
                have hb12 := BT hb11 hx8
                replace hs18 := hs18.below hx8 hs18.lt2r
                refine hK _ _ (HI8.out _ hb12) ?_
                clear hK K hx8 hb11
                (try simp only [Act.put, List.setIfInBounds_toArray, List.set_cons_zero, List.set_cons_succ])
                refine tr_step rfl (by rfl) (fun K hK => ?_)
                have hx8 := newB Y12 (.cells #[.int .i64 0, .int .i64 0] 23)
                have hs19 := slots_new2r Y12 23
                have hb13 := BT hb12 hx8
                have hge19 := hb12.size
                have hlt18 := hs18.lt2r
                replace hs18 := hs18.below hx8 hlt18
                go_simp
                refine hK _ _ (HI8.out _ hb13) ?_
                clear hK K hx8 hb12
                generalize Y12.heap.size = g19 at *
                generalize Y12.alloc (.cells #[.int .i64 0, .int .i64 0] 23) = Y13 at *
                (try simp only [Act.put, List.setIfInBounds_toArray, List.set_cons_zero, List.set_cons_succ])
                refine tr_step rfl (by rfl) (fun K hK => ?_)
                have ka := spn2_slots hs18 x0 x1
                have hb14 := BC (BC hb13 g18 0 hge18 (.int .i64 x0)) g18 1 hge18 (.int .i64 x1)
                obtain ⟨u0, q0, f0⟩ := hs18.get 0 (by omega)
                obtain ⟨u1, q1, f1⟩ := hs18.get 1 (by omega)
                have hs19 := (hs19.set ⟨g18, 0, none⟩ (.int .i64 x0)).set ⟨g18, 1, none⟩ (.int .i64 x1)
                have hne : g18 ≠ g19 := by omega
                go_simp
                refine hK _ _ (HI8.out _ hb14) ?_
                clear hK K u0 q0 f0 u1 q1 f1 hs18 hb13
                generalize (Y13.setCell ⟨g18, 0, none⟩ (.int .i64 x0)).setCell ⟨g18, 1, none⟩ (.int .i64 x1) = Y14 at *
                (try simp only [Act.put, List.setIfInBounds_toArray, List.set_cons_zero, List.set_cons_succ])
                refine tr_step rfl (by rfl) (fun K hK => ?_)
                have kb := spn2_slots hs19 y0 y1
                have hb15 := BC (BC hb14 g19 0 hge19 (.int .i64 y0)) g19 1 hge19 (.int .i64 y1)
                obtain ⟨u0, q0, f0⟩ := hs19.get 0 (by omega)
                obtain ⟨u1, q1, f1⟩ := hs19.get 1 (by omega)
                have ka := (ka.put hne 0 (.int .i64 y0)).put hne 1 (.int .i64 y1)
                go_simp
                refine hK _ _ (HI8.out _ hb15) ?_
                clear hK K u0 q0 f0 u1 q1 f1 hs19 hb14
                generalize (Y14.setCell ⟨g19, 0, none⟩ (.int .i64 y0)).setCell ⟨g19, 1, none⟩ (.int .i64 y1) = Y15 at *
                (try simp only [Act.put, List.setIfInBounds_toArray, List.set_cons_zero, List.set_cons_succ])
                refine HQ _ _ _ ?_
                show Exit.then _ _ Exit.normal _ _
                go_wp2_with fail
                go_meet
                exact ⟨g18, g19, rfl, rfl, ka, kb, hb15⟩
              · skip
                refine tr_step rfl (by rfl) (fun K hK => ?_)
                have hx8 := newB Y11 (.cells #[.int .i64 0, .int .i64 0] 23)
                have hs19 := slots_new2r Y11 23
                have hb16 := BT hb11 hx8
                have hge19 := hb11.size
                have hlt18 := hs18.lt2r
                replace hs18 := hs18.below hx8 hlt18
                go_simp
                refine hK _ _ (HI8.out _ hb16) ?_
                clear hK K hx8 hb11
                generalize Y11.heap.size = g19 at *
                generalize Y11.alloc (.cells #[.int .i64 0, .int .i64 0] 23) = Y16 at *
                (try simp only [Act.put, List.setIfInBounds_toArray, List.set_cons_zero, List.set_cons_succ])
                refine tr_step rfl (by rfl) (fun K hK => ?_)
                go_simp
                refine (HY.out Y16).mono ?_
                rintro e Y17 ⟨rfl, hx8⟩
                have hb17 := BT hb16 hx8
                replace hs18 := hs18.below hx8 hs18.lt2r
                replace hs19 := hs19.below hx8 hs19.lt2r
                refine hK _ _ (HI8.out _ hb17) ?_
                clear hK K hx8 hb16
                (try simp only [Act.put, List.setIfInBounds_toArray, List.set_cons_zero, List.set_cons_succ])
                refine tr_step rfl (by rfl) (fun K hK => ?_)
                have ka := spn2_slots hs18 x0 x1
                have hb18 := BC (BC hb17 g18 0 hge18 (.int .i64 x0)) g18 1 hge18 (.int .i64 x1)
                obtain ⟨u0, q0, f0⟩ := hs18.get 0 (by omega)
                obtain ⟨u1, q1, f1⟩ := hs18.get 1 (by omega)
                have hs19 := (hs19.set ⟨g18, 0, none⟩ (.int .i64 x0)).set ⟨g18, 1, none⟩ (.int .i64 x1)
                have hne : g18 ≠ g19 := by omega
                go_simp
                refine hK _ _ (HI8.out _ hb18) ?_
                clear hK K u0 q0 f0 u1 q1 f1 hs18 hb17
                generalize (Y17.setCell ⟨g18, 0, none⟩ (.int .i64 x0)).setCell ⟨g18, 1, none⟩ (.int .i64 x1) = Y18 at *
                (try simp only [Act.put, List.setIfInBounds_toArray, List.set_cons_zero, List.set_cons_succ])
                refine tr_step rfl (by rfl) (fun K hK => ?_)
                have kb := spn2_slots hs19 y0 y1
                have hb19 := BC (BC hb18 g19 0 hge19 (.int .i64 y0)) g19 1 hge19 (.int .i64 y1)
                obtain ⟨u0, q0, f0⟩ := hs19.get 0 (by omega)
                obtain ⟨u1, q1, f1⟩ := hs19.get 1 (by omega)
                have ka := (ka.put hne 0 (.int .i64 y0)).put hne 1 (.int .i64 y1)
                go_simp
                refine hK _ _ (HI8.out _ hb19) ?_
                clear hK K u0 q0 f0 u1 q1 f1 hs19 hb18
                generalize (Y18.setCell ⟨g19, 0, none⟩ (.int .i64 y0)).setCell ⟨g19, 1, none⟩ (.int .i64 y1) = Y19 at *
                (try simp only [Act.put, List.setIfInBounds_toArray, List.set_cons_zero, List.set_cons_succ])
                refine HQ _ _ _ ?_
                show Exit.then _ _ Exit.normal _ _
                go_wp2_with fail
                go_meet
                exact ⟨g18, g19, rfl, rfl, ka, kb, hb19⟩
            · skip
              refine tr_step rfl (by rfl) (fun K hK => ?_)
              have hx8 := newB Y1 (.cells #[.int .i64 0, .int .i64 0] 23)
              have hs19 := slots_new2r Y1 23
              have hb20 := BT hb1 hx8
              have hge19 := hb1.size
              go_simp
              refine hK _ _ (HI8.out _ hb20) ?_
              clear hK K hx8 hb1
              generalize Y1.heap.size = g19 at *
              generalize Y1.alloc (.cells #[.int .i64 0, .int .i64 0] 23) = Y20 at *
              (try simp only [Act.put, List.setIfInBounds_toArray, List.set_cons_zero, List.set_cons_succ])
              refine ⟨?_, ?_⟩
              · skip
                refine tr_step rfl (by rfl) (fun K hK => ?_)
                go_simp
                refine (HY.out Y20).mono ?_
                rintro e Y21 ⟨rfl, hx8⟩
                have hb21 := BT hb20 hx8
                replace hs19 := hs19.below hx8 hs19.lt2r
                refine hK _ _ (HI8.out _ hb21) ?_
                clear hK K hx8 hb20
                (try simp only [Act.put, List.setIfInBounds_toArray, List.set_cons_zero, List.set_cons_succ])
                refine tr_step rfl (by rfl) (fun K hK => ?_)
                have hx8 := newB Y21 (.cells #[.int .i64 0, .int .i64 0] 23)
                have hs18 := slots_new2r Y21 23
                have hb22 := BT hb21 hx8
                have hge18 := hb21.size
                have hlt19 := hs19.lt2r
                replace hs19 := hs19.below hx8 hlt19
                go_simp
                refine hK _ _ (HI8.out _ hb22) ?_
                clear hK K hx8 hb21
                generalize Y21.heap.size = g18 at *
                generalize Y21.alloc (.cells #[.int .i64 0, .int .i64 0] 23) = Y22 at *
                (try simp only [Act.put, List.setIfInBounds_toArray, List.set_cons_zero, List.set_cons_succ])
                refine tr_step rfl (by rfl) (fun K hK => ?_)
                have ka := spn2_slots hs18 x0 x1
                have hb23 := BC (BC hb22 g18 0 hge18 (.int .i64 x0)) g18 1 hge18 (.int .i64 x1)
                obtain ⟨u0, q0, f0⟩ := hs18.get 0 (by omega)
                obtain ⟨u1, q1, f1⟩ := hs18.get 1 (by omega)
                have hs19 := (hs19.set ⟨g18, 0, none⟩ (.int .i64 x0)).set ⟨g18, 1, none⟩ (.int .i64 x1)
                have hne : g18 ≠ g19 := by omega
                go_simp
                refine hK _ _ (HI8.out _ hb23) ?_
                clear hK K u0 q0 f0 u1 q1 f1 hs18 hb22
                generalize (Y22.setCell ⟨g18, 0, none⟩ (.int .i64 x0)).setCell ⟨g18, 1, none⟩ (.int .i64 x1) = Y23 at *
                (try simp only [Act.put, List.setIfInBounds_toArray, List.set_cons_zero, List.set_cons_succ])
                refine tr_step rfl (by rfl) (fun K hK => ?_)
                have kb := spn2_slots hs19 y0 y1
                have hb24 := BC (BC hb23 g19 0 hge19 (.int .i64 y0)) g19 1 hge19 (.int .i64 y1)
                obtain ⟨u0, q0, f0⟩ := hs19.get 0 (by omega)
                obtain ⟨u1, q1, f1⟩ := hs19.get 1 (by omega)
                have ka := (ka.put hne 0 (.int .i64 y0)).put hne 1 (.int .i64 y1)
                go_simp
                refine hK _ _ (HI8.out _ hb24) ?_
                clear hK K u0 q0 f0 u1 q1 f1 hs19 hb23
                generalize (Y23.setCell ⟨g19, 0, none⟩ (.int .i64 y0)).setCell ⟨g19, 1, none⟩ (.int .i64 y1) = Y24 at *
                (try simp only [Act.put, List.setIfInBounds_toArray, List.set_cons_zero, List.set_cons_succ])
                refine HQ _ _ _ ?_
                show Exit.then _ _ Exit.normal _ _
                go_wp2_with fail
                go_meet
                exact ⟨g18, g19, rfl, rfl, ka, kb, hb24⟩
              · skip
                refine tr_step rfl (by rfl) (fun K hK => ?_)
                have hx8 := newB Y20 (.cells #[.int .i64 0, .int .i64 0] 23)
                have hs18 := slots_new2r Y20 23
                have hb25 := BT hb20 hx8
                have hge18 := hb20.size
                have hlt19 := hs19.lt2r
                replace hs19 := hs19.below hx8 hlt19
                go_simp
                refine hK _ _ (HI8.out _ hb25) ?_
                clear hK K hx8 hb20
                generalize Y20.heap.size = g18 at *
                generalize Y20.alloc (.cells #[.int .i64 0, .int .i64 0] 23) = Y25 at *
                (try simp only [Act.put, List.setIfInBounds_toArray, List.set_cons_zero, List.set_cons_succ])
                refine tr_step rfl (by rfl) (fun K hK => ?_)
                go_simp
                refine (HY.out Y25).mono ?_
                rintro e Y26 ⟨rfl, hx8⟩
                have hb26 := BT hb25 hx8
                replace hs19 := hs19.below hx8 hs19.lt2r
                replace hs18 := hs18.below hx8 hs18.lt2r
                refine hK _ _ (HI8.out _ hb26) ?_
                clear hK K hx8 hb25
                (try simp only [Act.put, List.setIfInBounds_toArray, List.set_cons_zero, List.set_cons_succ])
                refine tr_step rfl (by rfl) (fun K hK => ?_)
                have ka := spn2_slots hs18 x0 x1
                have hb27 := BC (BC hb26 g18 0 hge18 (.int .i64 x0)) g18 1 hge18 (.int .i64 x1)
                obtain ⟨u0, q0, f0⟩ := hs18.get 0 (by omega)
                obtain ⟨u1, q1, f1⟩ := hs18.get 1 (by omega)
                have hs19 := (hs19.set ⟨g18, 0, none⟩ (.int .i64 x0)).set ⟨g18, 1, none⟩ (.int .i64 x1)
                have hne : g18 ≠ g19 := by omega
                go_simp
                refine hK _ _ (HI8.out _ hb27) ?_
                clear hK K u0 q0 f0 u1 q1 f1 hs18 hb26
                generalize (Y26.setCell ⟨g18, 0, none⟩ (.int .i64 x0)).setCell ⟨g18, 1, none⟩ (.int .i64 x1) = Y27 at *
                (try simp only [Act.put, List.setIfInBounds_toArray, List.set_cons_zero, List.set_cons_succ])
                refine tr_step rfl (by rfl) (fun K hK => ?_)
                have kb := spn2_slots hs19 y0 y1
                have hb28 := BC (BC hb27 g19 0 hge19 (.int .i64 y0)) g19 1 hge19 (.int .i64 y1)
                obtain ⟨u0, q0, f0⟩ := hs19.get 0 (by omega)
                obtain ⟨u1, q1, f1⟩ := hs19.get 1 (by omega)
                have ka := (ka.put hne 0 (.int .i64 y0)).put hne 1 (.int .i64 y1)
                go_simp
                refine hK _ _ (HI8.out _ hb28) ?_
                clear hK K u0 q0 f0 u1 q1 f1 hs19 hb27
                generalize (Y27.setCell ⟨g19, 0, none⟩ (.int .i64 y0)).setCell ⟨g19, 1, none⟩ (.int .i64 y1) = Y28 at *
                (try simp only [Act.put, List.setIfInBounds_toArray, List.set_cons_zero, List.set_cons_succ])
                refine HQ _ _ _ ?_
                show Exit.then _ _ Exit.normal _ _
                go_wp2_with fail
                go_meet
                exact ⟨g18, g19, rfl, rfl, ka, kb, hb28⟩
          · skip
            refine tr_step rfl (by rfl) (fun K hK => ?_)
            have hx8 := newB Y0 (.cells #[.int .i64 0, .int .i64 0] 23)
            have hs18 := slots_new2r Y0 23
            have hb29 := BT hb0 hx8
            have hge18 := hb0.size
            go_simp
            refine hK _ _ (HI8.out _ hb29) ?_
            clear hK K hx8 hb0
            generalize Y0.heap.size = g18 at *
            generalize Y0.alloc (.cells #[.int .i64 0, .int .i64 0] 23) = Y29 at *
            (try simp only [Act.put, List.setIfInBounds_toArray, List.set_cons_zero, List.set_cons_succ])
            refine ⟨?_, ?_⟩
            · skip
              refine tr_step rfl (by rfl) (fun K hK => ?_)
              go_simp
              refine (HX.out Y29).mono ?_
              rintro e Y30 ⟨rfl, hx8⟩
              have hb30 := BT hb29 hx8
              replace hs18 := hs18.below hx8 hs18.lt2r
              refine hK _ _ (HI8.out _ hb30) ?_
              clear hK K hx8 hb29
              (try simp only [Act.put, List.setIfInBounds_toArray, List.set_cons_zero, List.set_cons_succ])
              refine ⟨?_, ?_⟩
              · skip
                refine tr_step rfl (by rfl) (fun K hK => ?_)
                go_simp
                refine (HY.out Y30).mono ?_
                rintro e Y31 ⟨rfl, hx8⟩
                have hb31 := BT hb30 hx8
                replace hs18 := hs18.below hx8 hs18.lt2r
                refine hK _ _ (HI8.out _ hb31) ?_
                clear hK K hx8 hb30
                (try simp only [Act.put, List.setIfInBounds_toArray, List.set_cons_zero, List.set_cons_succ])
                refine tr_step rfl (by rfl) (fun K hK => ?_)
                have hx8 := newB Y31 (.cells #[.int .i64 0, .int .i64 0] 23)
                have hs19 := slots_new2r Y31 23
                have hb32 := BT hb31 hx8
                have hge19 := hb31.size
                have hlt18 := hs18.lt2r
                replace hs18 := hs18.below hx8 hlt18
                go_simp
                refine hK _ _ (HI8.out _ hb32) ?_
                clear hK K hx8 hb31
                generalize Y31.heap.size = g19 at *
                generalize Y31.alloc (.cells #[.int .i64 0, .int .i64 0] 23) = Y32 at *
                (try simp only [Act.put, List.setIfInBounds_toArray, List.set_cons_zero, List.set_cons_succ])
                refine tr_step rfl (by rfl) (fun K hK => ?_)
                have ka := spn2_slots hs18 x0 x1
                have hb33 := BC (BC hb32 g18 0 hge18 (.int .i64 x0)) g18 1 hge18 (.int .i64 x1)
                obtain ⟨u0, q0, f0⟩ := hs18.get 0 (by omega)
                obtain ⟨u1, q1, f1⟩ := hs18.get 1 (by omega)
                have hs19 := (hs19.set ⟨g18, 0, none⟩ (.int .i64 x0)).set ⟨g18, 1, none⟩ (.int .i64 x1)
                have hne : g18 ≠ g19 := by omega
                go_simp
                refine hK _ _ (HI8.out _ hb33) ?_
                clear hK K u0 q0 f0 u1 q1 f1 hs18 hb32
                generalize (Y32.setCell ⟨g18, 0, none⟩ (.int .i64 x0)).setCell ⟨g18, 1, none⟩ (.int .i64 x1) = Y33 at *
                (try simp only [Act.put, List.setIfInBounds_toArray, List.set_cons_zero, List.set_cons_succ])
                refine tr_step rfl (by rfl) (fun K hK => ?_)
                have kb := spn2_slots hs19 y0 y1
                have hb34 := BC (BC hb33 g19 0 hge19 (.int .i64 y0)) g19 1 hge19 (.int .i64 y1)
                obtain ⟨u0, q0, f0⟩ := hs19.get 0 (by omega)
                obtain ⟨u1, q1, f1⟩ := hs19.get 1 (by omega)
                have ka := (ka.put hne 0 (.int .i64 y0)).put hne 1 (.int .i64 y1)
                go_simp
                refine hK _ _ (HI8.out _ hb34) ?_
                clear hK K u0 q0 f0 u1 q1 f1 hs19 hb33
                generalize (Y33.setCell ⟨g19, 0, none⟩ (.int .i64 y0)).setCell ⟨g19, 1, none⟩ (.int .i64 y1) = Y34 at *
                (try simp only [Act.put, List.setIfInBounds_toArray, List.set_cons_zero, List.set_cons_succ])
                refine HQ _ _ _ ?_
                show Exit.then _ _ Exit.normal _ _
                go_wp2_with fail
                go_meet
                exact ⟨g18, g19, rfl, rfl, ka, kb, hb34⟩
              · skip
                refine tr_step rfl (by rfl) (fun K hK => ?_)
                have hx8 := newB Y30 (.cells #[.int .i64 0, .int .i64 0] 23)
                have hs19 := slots_new2r Y30 23
                have hb35 := BT hb30 hx8
                have hge19 := hb30.size
                have hlt18 := hs18.lt2r
                replace hs18 := hs18.below hx8 hlt18
                go_simp
                refine hK _ _ (HI8.out _ hb35) ?_
                clear hK K hx8 hb30
                generalize Y30.heap.size = g19 at *
                generalize Y30.alloc (.cells #[.int .i64 0, .int .i64 0] 23) = Y35 at *
                (try simp only [Act.put, List.setIfInBounds_toArray, List.set_cons_zero, List.set_cons_succ])
                refine tr_step rfl (by rfl) (fun K hK => ?_)
                go_simp
                refine (HY.out Y35).mono ?_
                rintro e Y36 ⟨rfl, hx8⟩
                have hb36 := BT hb35 hx8
                replace hs18 := hs18.below hx8 hs18.lt2r
                replace hs19 := hs19.below hx8 hs19.lt2r
                refine hK _ _ (HI8.out _ hb36) ?_
                clear hK K hx8 hb35
                (try simp only [Act.put, List.setIfInBounds_toArray, List.set_cons_zero, List.set_cons_succ])
                refine tr_step rfl (by rfl) (fun K hK => ?_)
                have ka := spn2_slots hs18 x0 x1
                have hb37 := BC (BC hb36 g18 0 hge18 (.int .i64 x0)) g18 1 hge18 (.int .i64 x1)
                obtain ⟨u0, q0, f0⟩ := hs18.get 0 (by omega)
                obtain ⟨u1, q1, f1⟩ := hs18.get 1 (by omega)
                have hs19 := (hs19.set ⟨g18, 0, none⟩ (.int .i64 x0)).set ⟨g18, 1, none⟩ (.int .i64 x1)
                have hne : g18 ≠ g19 := by omega
                go_simp
                refine hK _ _ (HI8.out _ hb37) ?_
                clear hK K u0 q0 f0 u1 q1 f1 hs18 hb36
                generalize (Y36.setCell ⟨g18, 0, none⟩ (.int .i64 x0)).setCell ⟨g18, 1, none⟩ (.int .i64 x1) = Y37 at *
                (try simp only [Act.put, List.setIfInBounds_toArray, List.set_cons_zero, List.set_cons_succ])
                refine tr_step rfl (by rfl) (fun K hK => ?_)
                have kb := spn2_slots hs19 y0 y1
                have hb38 := BC (BC hb37 g19 0 hge19 (.int .i64 y0)) g19 1 hge19 (.int .i64 y1)
                obtain ⟨u0, q0, f0⟩ := hs19.get 0 (by omega)
                obtain ⟨u1, q1, f1⟩ := hs19.get 1 (by omega)
                have ka := (ka.put hne 0 (.int .i64 y0)).put hne 1 (.int .i64 y1)
                go_simp
                refine hK _ _ (HI8.out _ hb38) ?_
                clear hK K u0 q0 f0 u1 q1 f1 hs19 hb37
                generalize (Y37.setCell ⟨g19, 0, none⟩ (.int .i64 y0)).setCell ⟨g19, 1, none⟩ (.int .i64 y1) = Y38 at *
                (try simp only [Act.put, List.setIfInBounds_toArray, List.set_cons_zero, List.set_cons_succ])
                refine HQ _ _ _ ?_
                show Exit.then _ _ Exit.normal _ _
                go_wp2_with fail
                go_meet
                exact ⟨g18, g19, rfl, rfl, ka, kb, hb38⟩
            · skip
              refine tr_step rfl (by rfl) (fun K hK => ?_)
              have hx8 := newB Y29 (.cells #[.int .i64 0, .int .i64 0] 23)
              have hs19 := slots_new2r Y29 23
              have hb39 := BT hb29 hx8
              have hge19 := hb29.size
              have hlt18 := hs18.lt2r
              replace hs18 := hs18.below hx8 hlt18
              go_simp
              refine hK _ _ (HI8.out _ hb39) ?_
              clear hK K hx8 hb29
              generalize Y29.heap.size = g19 at *
              generalize Y29.alloc (.cells #[.int .i64 0, .int .i64 0] 23) = Y39 at *
              (try simp only [Act.put, List.setIfInBounds_toArray, List.set_cons_zero, List.set_cons_succ])
              refine tr_step rfl (by rfl) (fun K hK => ?_)
              go_simp
              refine (HX.out Y39).mono ?_
              rintro e Y40 ⟨rfl, hx8⟩
              have hb40 := BT hb39 hx8
              replace hs18 := hs18.below hx8 hs18.lt2r
              replace hs19 := hs19.below hx8 hs19.lt2r
              refine hK _ _ (HI8.out _ hb40) ?_
              clear hK K hx8 hb39
              (try simp only [Act.put, List.setIfInBounds_toArray, List.set_cons_zero, List.set_cons_succ])
              refine tr_step rfl (by rfl) (fun K hK => ?_)
              go_simp
              refine (HY.out Y40).mono ?_
              rintro e Y41 ⟨rfl, hx8⟩
              have hb41 := BT hb40 hx8
              replace hs18 := hs18.below hx8 hs18.lt2r
              replace hs19 := hs19.below hx8 hs19.lt2r
              refine hK _ _ (HI8.out _ hb41) ?_
              clear hK K hx8 hb40
              (try simp only [Act.put, List.setIfInBounds_toArray, List.set_cons_zero, List.set_cons_succ])
              refine tr_step rfl (by rfl) (fun K hK => ?_)
              have ka := spn2_slots hs18 x0 x1
              have hb42 := BC (BC hb41 g18 0 hge18 (.int .i64 x0)) g18 1 hge18 (.int .i64 x1)
              obtain ⟨u0, q0, f0⟩ := hs18.get 0 (by omega)
              obtain ⟨u1, q1, f1⟩ := hs18.get 1 (by omega)
              have hs19 := (hs19.set ⟨g18, 0, none⟩ (.int .i64 x0)).set ⟨g18, 1, none⟩ (.int .i64 x1)
              have hne : g18 ≠ g19 := by omega
              go_simp
              refine hK _ _ (HI8.out _ hb42) ?_
              clear hK K u0 q0 f0 u1 q1 f1 hs18 hb41
              generalize (Y41.setCell ⟨g18, 0, none⟩ (.int .i64 x0)).setCell ⟨g18, 1, none⟩ (.int .i64 x1) = Y42 at *
              (try simp only [Act.put, List.setIfInBounds_toArray, List.set_cons_zero, List.set_cons_succ])
              refine tr_step rfl (by rfl) (fun K hK => ?_)
              have kb := spn2_slots hs19 y0 y1
              have hb43 := BC (BC hb42 g19 0 hge19 (.int .i64 y0)) g19 1 hge19 (.int .i64 y1)
              obtain ⟨u0, q0, f0⟩ := hs19.get 0 (by omega)
              obtain ⟨u1, q1, f1⟩ := hs19.get 1 (by omega)
              have ka := (ka.put hne 0 (.int .i64 y0)).put hne 1 (.int .i64 y1)
              go_simp
              refine hK _ _ (HI8.out _ hb43) ?_
              clear hK K u0 q0 f0 u1 q1 f1 hs19 hb42
              generalize (Y42.setCell ⟨g19, 0, none⟩ (.int .i64 y0)).setCell ⟨g19, 1, none⟩ (.int .i64 y1) = Y43 at *
              (try simp only [Act.put, List.setIfInBounds_toArray, List.set_cons_zero, List.set_cons_succ])
              refine HQ _ _ _ ?_
              show Exit.then _ _ Exit.normal _ _
              go_wp2_with fail
              go_meet
              exact ⟨g18, g19, rfl, rfl, ka, kb, hb43⟩
          · skip
            refine tr_step rfl (by rfl) (fun K hK => ?_)
            have hx8 := newB Y0 (.cells #[.int .i64 0, .int .i64 0] 23)
            have hs19 := slots_new2r Y0 23
            have hb44 := BT hb0 hx8
            have hge19 := hb0.size
            go_simp
            refine hK _ _ (HI8.out _ hb44) ?_
            clear hK K hx8 hb0
            generalize Y0.heap.size = g19 at *
            generalize Y0.alloc (.cells #[.int .i64 0, .int .i64 0] 23) = Y44 at *
            (try simp only [Act.put, List.setIfInBounds_toArray, List.set_cons_zero, List.set_cons_succ])
            refine ⟨?_, ?_⟩
            · skip
              refine tr_step rfl (by rfl) (fun K hK => ?_)
              go_simp
              refine (HX.out Y44).mono ?_
              rintro e Y45 ⟨rfl, hx8⟩
              have hb45 := BT hb44 hx8
              replace hs19 := hs19.below hx8 hs19.lt2r
              refine hK _ _ (HI8.out _ hb45) ?_
              clear hK K hx8 hb44
              (try simp only [Act.put, List.setIfInBounds_toArray, List.set_cons_zero, List.set_cons_succ])
              refine ⟨?_, ?_⟩
              · skip
                refine tr_step rfl (by rfl) (fun K hK => ?_)
                go_simp
                refine (HY.out Y45).mono ?_
                rintro e Y46 ⟨rfl, hx8⟩
                have hb46 := BT hb45 hx8
                replace hs19 := hs19.below hx8 hs19.lt2r
                refine hK _ _ (HI8.out _ hb46) ?_
                clear hK K hx8 hb45
                (try simp only [Act.put, List.setIfInBounds_toArray, List.set_cons_zero, List.set_cons_succ])
                refine tr_step rfl (by rfl) (fun K hK => ?_)
                have hx8 := newB Y46 (.cells #[.int .i64 0, .int .i64 0] 23)
                have hs18 := slots_new2r Y46 23
                have hb47 := BT hb46 hx8
                have hge18 := hb46.size
                have hlt19 := hs19.lt2r
                replace hs19 := hs19.below hx8 hlt19
                go_simp
                refine hK _ _ (HI8.out _ hb47) ?_
                clear hK K hx8 hb46
                generalize Y46.heap.size = g18 at *
                generalize Y46.alloc (.cells #[.int .i64 0, .int .i64 0] 23) = Y47 at *
                (try simp only [Act.put, List.setIfInBounds_toArray, List.set_cons_zero, List.set_cons_succ])
                refine tr_step rfl (by rfl) (fun K hK => ?_)
                have ka := spn2_slots hs18 x0 x1
                have hb48 := BC (BC hb47 g18 0 hge18 (.int .i64 x0)) g18 1 hge18 (.int .i64 x1)
                obtain ⟨u0, q0, f0⟩ := hs18.get 0 (by omega)
                obtain ⟨u1, q1, f1⟩ := hs18.get 1 (by omega)
                have hs19 := (hs19.set ⟨g18, 0, none⟩ (.int .i64 x0)).set ⟨g18, 1, none⟩ (.int .i64 x1)
                have hne : g18 ≠ g19 := by omega
                go_simp
                refine hK _ _ (HI8.out _ hb48) ?_
                clear hK K u0 q0 f0 u1 q1 f1 hs18 hb47
                generalize (Y47.setCell ⟨g18, 0, none⟩ (.int .i64 x0)).setCell ⟨g18, 1, none⟩ (.int .i64 x1) = Y48 at *
                (try simp only [Act.put, List.setIfInBounds_toArray, List.set_cons_zero, List.set_cons_succ])
                refine tr_step rfl (by rfl) (fun K hK => ?_)
                have kb := spn2_slots hs19 y0 y1
                have hb49 := BC (BC hb48 g19 0 hge19 (.int .i64 y0)) g19 1 hge19 (.int .i64 y1)
                obtain ⟨u0, q0, f0⟩ := hs19.get 0 (by omega)
                obtain ⟨u1, q1, f1⟩ := hs19.get 1 (by omega)
                have ka := (ka.put hne 0 (.int .i64 y0)).put hne 1 (.int .i64 y1)
                go_simp
                refine hK _ _ (HI8.out _ hb49) ?_
                clear hK K u0 q0 f0 u1 q1 f1 hs19 hb48
                generalize (Y48.setCell ⟨g19, 0, none⟩ (.int .i64 y0)).setCell ⟨g19, 1, none⟩ (.int .i64 y1) = Y49 at *
                (try simp only [Act.put, List.setIfInBounds_toArray, List.set_cons_zero, List.set_cons_succ])
                refine HQ _ _ _ ?_
                show Exit.then _ _ Exit.normal _ _
                go_wp2_with fail
                go_meet
                exact ⟨g18, g19, rfl, rfl, ka, kb, hb49⟩
              · skip
                refine tr_step rfl (by rfl) (fun K hK => ?_)
                have hx8 := newB Y45 (.cells #[.int .i64 0, .int .i64 0] 23)
                have hs18 := slots_new2r Y45 23
                have hb50 := BT hb45 hx8
                have hge18 := hb45.size
                have hlt19 := hs19.lt2r
                replace hs19 := hs19.below hx8 hlt19
                go_simp
                refine hK _ _ (HI8.out _ hb50) ?_
                clear hK K hx8 hb45
                generalize Y45.heap.size = g18 at *
                generalize Y45.alloc (.cells #[.int .i64 0, .int .i64 0] 23) = Y50 at *
                (try simp only [Act.put, List.setIfInBounds_toArray, List.set_cons_zero, List.set_cons_succ])
                refine tr_step rfl (by rfl) (fun K hK => ?_)
                go_simp
                refine (HY.out Y50).mono ?_
                rintro e Y51 ⟨rfl, hx8⟩
                have hb51 := BT hb50 hx8
                replace hs19 := hs19.below hx8 hs19.lt2r
                replace hs18 := hs18.below hx8 hs18.lt2r
                refine hK _ _ (HI8.out _ hb51) ?_
                clear hK K hx8 hb50
                (try simp only [Act.put, List.setIfInBounds_toArray, List.set_cons_zero, List.set_cons_succ])
                refine tr_step rfl (by rfl) (fun K hK => ?_)
                have ka := spn2_slots hs18 x0 x1
                have hb52 := BC (BC hb51 g18 0 hge18 (.int .i64 x0)) g18 1 hge18 (.int .i64 x1)
                obtain ⟨u0, q0, f0⟩ := hs18.get 0 (by omega)
                obtain ⟨u1, q1, f1⟩ := hs18.get 1 (by omega)
                have hs19 := (hs19.set ⟨g18, 0, none⟩ (.int .i64 x0)).set ⟨g18, 1, none⟩ (.int .i64 x1)
                have hne : g18 ≠ g19 := by omega
                go_simp
                refine hK _ _ (HI8.out _ hb52) ?_
                clear hK K u0 q0 f0 u1 q1 f1 hs18 hb51
                generalize (Y51.setCell ⟨g18, 0, none⟩ (.int .i64 x0)).setCell ⟨g18, 1, none⟩ (.int .i64 x1) = Y52 at *
                (try simp only [Act.put, List.setIfInBounds_toArray, List.set_cons_zero, List.set_cons_succ])
                refine tr_step rfl (by rfl) (fun K hK => ?_)
                have kb := spn2_slots hs19 y0 y1
                have hb53 := BC (BC hb52 g19 0 hge19 (.int .i64 y0)) g19 1 hge19 (.int .i64 y1)
                obtain ⟨u0, q0, f0⟩ := hs19.get 0 (by omega)
                obtain ⟨u1, q1, f1⟩ := hs19.get 1 (by omega)
                have ka := (ka.put hne 0 (.int .i64 y0)).put hne 1 (.int .i64 y1)
                go_simp
                refine hK _ _ (HI8.out _ hb53) ?_
                clear hK K u0 q0 f0 u1 q1 f1 hs19 hb52
                generalize (Y52.setCell ⟨g19, 0, none⟩ (.int .i64 y0)).setCell ⟨g19, 1, none⟩ (.int .i64 y1) = Y53 at *
                (try simp only [Act.put, List.setIfInBounds_toArray, List.set_cons_zero, List.set_cons_succ])
                refine HQ _ _ _ ?_
                show Exit.then _ _ Exit.normal _ _
                go_wp2_with fail
                go_meet
                exact ⟨g18, g19, rfl, rfl, ka, kb, hb53⟩
            · skip
              refine tr_step rfl (by rfl) (fun K hK => ?_)
              have hx8 := newB Y44 (.cells #[.int .i64 0, .int .i64 0] 23)
              have hs18 := slots_new2r Y44 23
              have hb54 := BT hb44 hx8
              have hge18 := hb44.size
              have hlt19 := hs19.lt2r
              replace hs19 := hs19.below hx8 hlt19
              go_simp
              refine hK _ _ (HI8.out _ hb54) ?_
              clear hK K hx8 hb44
              generalize Y44.heap.size = g18 at *
              generalize Y44.alloc (.cells #[.int .i64 0, .int .i64 0] 23) = Y54 at *
              (try simp only [Act.put, List.setIfInBounds_toArray, List.set_cons_zero, List.set_cons_succ])
              refine tr_step rfl (by rfl) (fun K hK => ?_)
              go_simp
              refine (HX.out Y54).mono ?_
              rintro e Y55 ⟨rfl, hx8⟩
              have hb55 := BT hb54 hx8
              replace hs19 := hs19.below hx8 hs19.lt2r
              replace hs18 := hs18.below hx8 hs18.lt2r
              refine hK _ _ (HI8.out _ hb55) ?_
              clear hK K hx8 hb54
              (try simp only [Act.put, List.setIfInBounds_toArray, List.set_cons_zero, List.set_cons_succ])
              refine tr_step rfl (by rfl) (fun K hK => ?_)
              go_simp
              refine (HY.out Y55).mono ?_
              rintro e Y56 ⟨rfl, hx8⟩
              have hb56 := BT hb55 hx8
              replace hs19 := hs19.below hx8 hs19.lt2r
              replace hs18 := hs18.below hx8 hs18.lt2r
              refine hK _ _ (HI8.out _ hb56) ?_
              clear hK K hx8 hb55
              (try simp only [Act.put, List.setIfInBounds_toArray, List.set_cons_zero, List.set_cons_succ])
              refine tr_step rfl (by rfl) (fun K hK => ?_)
              have ka := spn2_slots hs18 x0 x1
              have hb57 := BC (BC hb56 g18 0 hge18 (.int .i64 x0)) g18 1 hge18 (.int .i64 x1)
              obtain ⟨u0, q0, f0⟩ := hs18.get 0 (by omega)
              obtain ⟨u1, q1, f1⟩ := hs18.get 1 (by omega)
              have hs19 := (hs19.set ⟨g18, 0, none⟩ (.int .i64 x0)).set ⟨g18, 1, none⟩ (.int .i64 x1)
              have hne : g18 ≠ g19 := by omega
              go_simp
              refine hK _ _ (HI8.out _ hb57) ?_
              clear hK K u0 q0 f0 u1 q1 f1 hs18 hb56
              generalize (Y56.setCell ⟨g18, 0, none⟩ (.int .i64 x0)).setCell ⟨g18, 1, none⟩ (.int .i64 x1) = Y57 at *
              (try simp only [Act.put, List.setIfInBounds_toArray, List.set_cons_zero, List.set_cons_succ])
              refine tr_step rfl (by rfl) (fun K hK => ?_)
              have kb := spn2_slots hs19 y0 y1
              have hb58 := BC (BC hb57 g19 0 hge19 (.int .i64 y0)) g19 1 hge19 (.int .i64 y1)
              obtain ⟨u0, q0, f0⟩ := hs19.get 0 (by omega)
              obtain ⟨u1, q1, f1⟩ := hs19.get 1 (by omega)
              have ka := (ka.put hne 0 (.int .i64 y0)).put hne 1 (.int .i64 y1)
              go_simp
              refine hK _ _ (HI8.out _ hb58) ?_
              clear hK K u0 q0 f0 u1 q1 f1 hs19 hb57
              generalize (Y57.setCell ⟨g19, 0, none⟩ (.int .i64 y0)).setCell ⟨g19, 1, none⟩ (.int .i64 y1) = Y58 at *
              (try simp only [Act.put, List.setIfInBounds_toArray, List.set_cons_zero, List.set_cons_succ])
              refine HQ _ _ _ ?_
              show Exit.then _ _ Exit.normal _ _
              go_wp2_with fail
              go_meet
              exact ⟨g18, g19, rfl, rfl, ka, kb, hb58⟩
        case rest =>
          obtain ⟨A, B, rfl, rfl, kA, kB, hy⟩ := hcut
          obtain ⟨Z1, rfl⟩ : ∃ Z1 : World, Z1 = wc := ⟨_, rfl⟩
          obtain ⟨a0, a1, -, -⟩ := id kA
          obtain ⟨b0, b1, -, -⟩ := id kB
          replace so := so.grown hy
          have hx1 := BT hx hy
          replace ka' := ka'.grown hy
          obtain ⟨q5, q6, -, -⟩ := id ka'
          obtain ⟨r0, r1, -, -⟩ := id so
          clear q0 q1 hb0 HI8 hbW
          obtain ⟨bk, hbk⟩ : ∃ bk, (kk == C0) = bk := ⟨_, rfl⟩
          have HBK := Lib.hid hbk
          clear hbk
          go_wp2_with fail
          clear a0 a1 b0 b1 q5 q6 r0 r1
          rw [HBK.out]
          refine (hull_any o0 o1 (y0 - x1) (y1 - x0) bk Z1).mono ?_
          rintro e Z2 ⟨rfl, hz⟩
          replace so := so.grown hz
          replace ka' := ka'.grown hz
          have hx2 := BT hx1 hz
          have hst := HST2.out
          rw [HBK.out] at hst
          generalize (if bk then y0 - x1 else min o0 (y0 - x1)) = n0 at *
          generalize (if bk then y1 - x0 else max o1 (y1 - x0)) = n1 at *
          have HST3 := Lib.hid hst
          clear hst HST2
          have hx3 := BC (BC hx2 O 0 hge (.int .i64 n0)) O 1 hge (.int .i64 n1)
          have ka3 := (ka'.put hPO 0 (.int .i64 n0)).put hPO 1 (.int .i64 n1)
          obtain ⟨q0, q1, q2, q3⟩ := id so
          have so3 := so.set n0 n1
          go_wp2_with fail
          go_roundw
          case rel => exact ⟨j + 1, kk + 1, by omega, by have := HKK.out; omega, by go_num, ka3, by rw [HST3.out]; exact so3, hx3⟩
          case measure =>
            have := HKK.out
            simp [intOf]
            omega
      · obtain rfl : j = N := by omega
        have hkc : ¬ kk ≤ C1 := by omega
        have hkd : C1 < kk := by omega
        obtain ⟨a0, a1, -, -⟩ := id so
        have hs := HS.out.below hx hl0
        obtain ⟨u0, r0, f0⟩ := hs.get 0 (by omega)
        obtain ⟨u1, r1, f1⟩ := hs.get 1 (by omega)
        have hfin := BC (BC (BT HB0.out hx) (w.heap.size + 1) 0 (by omega) (.int .i64 (btTo G C0 j).1)) (w.heap.size + 1) 1 (by omega) (.int .i64 (btTo G C0 j).2)
        go_wp2_with fail
        exact bodyPost_ret (v := .agg #[.int .i64 (btTo G C0 j).1, .int .i64 (btTo G C0 j).2]) (by simp [results, Tryz.results58, go_sem, r0, r1]) rfl ⟨rfl, hfin⟩
end Go.Proofs.YtdkegkacpdkjgaaGreat

namespace Go.Proofs.YtdkegkacpdkjgaaGreat
open Go.RowKit

def apartRR (p : Pl) (ss : List St) (a : Nat) (m n : Int) : (Int × Int) × (Int × Int) × Int := match openR p ss a ((decide (0 ≤ m) && decide (m ≤ (p.n : Int) - 1)) && (decide (0 ≤ n) && decide (n ≤ (p.n : Int) - 1))) with
  | .error c => ((0, 0), (0, 0), c)
  | .ok L => if m = n then ((0, 0), (0, 0), 0) else (hl (btw ss a p.n m.toNat n.toNat false) L L.length, hl (btw ss a p.n m.toNat n.toNat true) L L.length, 0)
set_option maxRecDepth 100000 in
set_option maxHeartbeats 8000000 in
theorem apartRR_any (p : Pl) (ss : List St) (a : Nat) (m n : Int) (w : World) (hm : PlAt p ss w) (hk : plB p ss = true → KnO p ss a) (hbig : p.n ≤ 1000000000) :
    Calls Tryz.prog 15 #[p.val, .int .i64 m, .int .i64 n] w (Ret (.tuple #[.agg #[.int .i64 ((apartRR p ss a m n).1).1, .int .i64 ((apartRR p ss a m n).1).2], .agg #[.int .i64 ((apartRR p ss a m n).2.1).1, .int .i64 ((apartRR p ss a m n).2.1).2], .int .i64 (apartRR p ss a m n).2.2]) w) := by
  have HO : Hid (∀ b Y, Below w.heap.size w Y → Calls Tryz.prog 39 #[.agg #[.int .i64 p.lo, .int .i64 p.hi, .slice p.a p.n p.cap], .bool b] Y (OpO (openR p ss a b) Y)) := fun b Y hY => open_any p ss a b Y (hm.below hY (Nat.le_refl _)) hk
  obtain ⟨W0, hW0⟩ : ∃ X, ((w.alloc (.cells #[.int .i64 p.lo, .int .i64 p.hi, .slice p.a p.n p.cap] 26)).alloc (.cells #[.int .i64 0, .int .i64 0] 23)).alloc (.cells #[.int .i64 0, .int .i64 0] 23) = X := ⟨_, rfl⟩
  have hB0 : Below w.heap.size w W0 := by rw [← hW0]; exact BA (BA (newB _ _) _) _
  have hQ : BoxP W0 w.heap.size p := by rw [← hW0]; exact ((boxP_new w p _).grown (newB _ _)).grown (newB _ _)
  have hR1 : Slots (w.heap.size + 1) 2 W0 := by
    rw [← hW0]
    have h := slots_new2r (w.alloc (.cells #[.int .i64 p.lo, .int .i64 p.hi, .slice p.a p.n p.cap] 26)) 23
    rw [World.size_alloc] at h
    exact h.below (newB _ _) (by simp)
  have hR2 : Slots (w.heap.size + 1 + 1) 2 W0 := by
    rw [← hW0]
    have h := slots_new2r ((w.alloc (.cells #[.int .i64 p.lo, .int .i64 p.hi, .slice p.a p.n p.cap] 26)).alloc (.cells #[.int .i64 0, .int .i64 0] 23)) 23
    rw [World.size_alloc, World.size_alloc] at h
    exact h
  have hl0 := hR2.lt2r
  have hl1 : w.heap.size + 1 < W0.heap.size := by omega
  have HB0 := Lib.hid hB0
  have HS1 := Lib.hid hR1
  have HS2 := Lib.hid hR2
  have HQ := Lib.hid hQ
  obtain ⟨b0, b1, b2⟩ := id hQ
  have HK := Lib.hid hk
  have HM := Lib.hid hm
  clear hQ hm hk hR1 hR2
  unfold apartRR Pl.val
  obtain ⟨bm, hbm⟩ : ∃ b, (decide (0 ≤ m) && decide (m ≤ (p.n : Int) - 1)) = b := ⟨_, rfl⟩
  obtain ⟨bn, hbn⟩ : ∃ b, (decide (0 ≤ n) && decide (n ≤ (p.n : Int) - 1)) = b := ⟨_, rfl⟩
  rw [hbm, hbn]
  obtain ⟨bv, hbv⟩ : ∃ b, (bm && bn) = b := ⟨_, rfl⟩
  rw [hbv]
  have HIM : Hid (∀ Y, Calls Tryz.prog 53 #[.agg #[.int .i64 p.lo, .int .i64 p.hi, .slice p.a p.n p.cap], .int .i64 m] Y (Ret (.bool bm) Y)) := fun Y => by
    have h := isStar_any p m Y hbig
    rw [hbm] at h; exact h
  have HIS : Hid (∀ Y, Calls Tryz.prog 53 #[.agg #[.int .i64 p.lo, .int .i64 p.hi, .slice p.a p.n p.cap], .int .i64 n] Y (Ret (.bool bn) Y)) := fun Y => by
    have h := isStar_any p n Y hbig
    rw [hbn] at h; exact h
  cases ho : openR p ss a bv with
  | error c =>
    have hc := openR_err ho
    have hc2 : (c == 0) = false := by simpa using hc
    have hc3 : (c != 0) = true := by simpa using hc
    have HOO : Hid (∀ Y, Below w.heap.size w Y → Calls Tryz.prog 39 #[.agg #[.int .i64 p.lo, .int .i64 p.hi, .slice p.a p.n p.cap], .bool bv] Y (OpO (.error c) Y)) := fun Y hY => by
      have h := HO.out bv Y hY
      rw [ho] at h; exact h
    clear ho HO HK HM
    skip
    dsimp only
    cases bm
    · obtain rfl : bv = false := by rw [← hbv]; rfl
      go_enter Tryz.func15, Tryz.ntmps15
      have hI : Hid (∀ Y, Below W0.heap.size W0 Y → Y.cell? ⟨w.heap.size, 0, none⟩ = some (.int .i64 p.lo) ∧ Y.cell? ⟨w.heap.size, 1, none⟩ = some (.int .i64 p.hi) ∧ Y.cell? ⟨w.heap.size, 2, none⟩ = some (.slice p.a p.n p.cap)) := fun Y hY => by
        obtain ⟨z0, z1, z2⟩ := HQ.out.grown hY
        exact ⟨z0, z1, z2⟩
      go_upto_region 1 with fail
      clear hW0 b0 b1 b2
      have hb0 : Below W0.heap.size W0 W0.drew := Below.drew (Below.refl _ _)
      refine wp_region_seq [(0, true), (1, true), (2, true), (3, false), (4, true), (5, true), (6, true), (7, false), (8, true), (9, false), (10, true), (11, true), (12, true), (13, true), (14, true)] (fun Y => Y.cell? ⟨w.heap.size, 0, none⟩ = some (.int .i64 p.lo) ∧ Y.cell? ⟨w.heap.size, 1, none⟩ = some (.int .i64 p.hi) ∧ Y.cell? ⟨w.heap.size, 2, none⟩ = some (.slice p.a p.n p.cap)) (by kernel_rfl) (by kernel_rfl) (fun _ _ d _ _ h => by cases d <;> exact h) (hI.out _ hb0) ?_
      refine seq_free (fun F HF Q HQ => ?_)
      generalize W0.drew = X0 at *
      repeat (first | (refine seq_read rfl (by rfl) _ (fun w' hS => by (try dsimp only at hS); go_simp; (try with_reducible rfl)) ?_; (try simp only [Act.put, List.setIfInBounds_toArray, List.set_cons_zero, List.set_cons_succ])) | (refine seq_skip rfl (by rfl) ?_; (try simp only [Act.put, List.setIfInBounds_toArray, List.set_cons_zero, List.set_cons_succ])))
      refine seq_do rfl (by rfl) (fun K hK => ?_)
      go_simp
      refine (HIM.out X0).mono ?_
      rintro e X1 ⟨rfl, hx⟩
      have hb1 := BT hb0 hx
      refine hK _ _ (hI.out _ hb1) ?_
      clear hK K hx
      (try simp only [Act.put, List.setIfInBounds_toArray, List.set_cons_zero, List.set_cons_succ])
      repeat (first | (refine seq_read rfl (by rfl) _ (fun w' hS => by (try dsimp only at hS); go_simp; (try with_reducible rfl)) ?_; (try simp only [Act.put, List.setIfInBounds_toArray, List.set_cons_zero, List.set_cons_succ])) | (refine seq_skip rfl (by rfl) ?_; (try simp only [Act.put, List.setIfInBounds_toArray, List.set_cons_zero, List.set_cons_succ])))
      refine seq_do rfl (by rfl) (fun K hK => ?_)
      go_simp
      refine (HOO.out X1 (BT HB0.out hb1)).mono ?_
      rintro e w1 ⟨rfl, hx⟩
      have hbe := BT hb1 hx
      refine hK _ _ (hI.out _ hbe) ?_
      clear hK K hx
      (try simp only [Act.put, List.setIfInBounds_toArray, List.set_cons_zero, List.set_cons_succ])
      repeat (first | (refine seq_read rfl (by rfl) _ (fun w' hS => by (try dsimp only at hS); go_simp; (try with_reducible rfl)) ?_; (try simp only [Act.put, List.setIfInBounds_toArray, List.set_cons_zero, List.set_cons_succ])) | (refine seq_skip rfl (by rfl) ?_; (try simp only [Act.put, List.setIfInBounds_toArray, List.set_cons_zero, List.set_cons_succ])))
      apply seq_end
      refine HF _ _ ?_
      first | show Exit.inBlock _ _ Exit.normal _ _ | show Exit.then _ _ Exit.normal _ _ | skip
      have hB := hbe
      clear hI hbe F HF Q HQ
      clear hb0
      clear hb1
      have hs1 := HS1.out.below hB hl1
      have hs2 := HS2.out.below hB hl0
      obtain ⟨u0, r0, f0⟩ := hs1.get 0 (by omega)
      obtain ⟨u1, r1, f1⟩ := hs1.get 1 (by omega)
      obtain ⟨v0, t0, g0⟩ := hs2.get 0 (by omega)
      obtain ⟨v1, t1, g1⟩ := hs2.get 1 (by omega)
      have hfin := BC (BC (BC (BC (BT HB0.out hB) (w.heap.size + 1) 0 (by omega) (.int .i64 0)) (w.heap.size + 1) 1 (by omega) (.int .i64 0)) (w.heap.size + 1 + 1) 0 (by omega) (.int .i64 0)) (w.heap.size + 1 + 1) 1 (by omega) (.int .i64 0)
      clear hB hB0 hs1 hs2
      go_wp2_with fail
      exact bodyPost_ret (v := .tuple #[.agg #[.int .i64 0, .int .i64 0], .agg #[.int .i64 0, .int .i64 0], .int .i64 c]) (by simp [results, Tryz.results15, go_sem, r0, r1, t0, t1]) rfl ⟨rfl, hfin⟩
    · obtain rfl : bn = bv := by rw [← hbv]; rfl
      go_enter Tryz.func15, Tryz.ntmps15
      have hI : Hid (∀ Y, Below W0.heap.size W0 Y → Y.cell? ⟨w.heap.size, 0, none⟩ = some (.int .i64 p.lo) ∧ Y.cell? ⟨w.heap.size, 1, none⟩ = some (.int .i64 p.hi) ∧ Y.cell? ⟨w.heap.size, 2, none⟩ = some (.slice p.a p.n p.cap)) := fun Y hY => by
        obtain ⟨z0, z1, z2⟩ := HQ.out.grown hY
        exact ⟨z0, z1, z2⟩
      go_upto_region 1 with fail
      clear hW0 b0 b1 b2
      have hb0 : Below W0.heap.size W0 W0.drew := Below.drew (Below.refl _ _)
      refine wp_region_seq [(0, true), (1, true), (2, true), (3, false), (4, true), (5, true), (6, true), (7, false), (8, true), (9, false), (10, true), (11, true), (12, true), (13, true), (14, true)] (fun Y => Y.cell? ⟨w.heap.size, 0, none⟩ = some (.int .i64 p.lo) ∧ Y.cell? ⟨w.heap.size, 1, none⟩ = some (.int .i64 p.hi) ∧ Y.cell? ⟨w.heap.size, 2, none⟩ = some (.slice p.a p.n p.cap)) (by kernel_rfl) (by kernel_rfl) (fun _ _ d _ _ h => by cases d <;> exact h) (hI.out _ hb0) ?_
      refine seq_free (fun F HF Q HQ => ?_)
      generalize W0.drew = X0 at *
      repeat (first | (refine seq_read rfl (by rfl) _ (fun w' hS => by (try dsimp only at hS); go_simp; (try with_reducible rfl)) ?_; (try simp only [Act.put, List.setIfInBounds_toArray, List.set_cons_zero, List.set_cons_succ])) | (refine seq_skip rfl (by rfl) ?_; (try simp only [Act.put, List.setIfInBounds_toArray, List.set_cons_zero, List.set_cons_succ])))
      refine seq_do rfl (by rfl) (fun K hK => ?_)
      go_simp
      refine (HIM.out X0).mono ?_
      rintro e X1 ⟨rfl, hx⟩
      have hb1 := BT hb0 hx
      refine hK _ _ (hI.out _ hb1) ?_
      clear hK K hx
      (try simp only [Act.put, List.setIfInBounds_toArray, List.set_cons_zero, List.set_cons_succ])
      repeat (first | (refine seq_read rfl (by rfl) _ (fun w' hS => by (try dsimp only at hS); go_simp; (try with_reducible rfl)) ?_; (try simp only [Act.put, List.setIfInBounds_toArray, List.set_cons_zero, List.set_cons_succ])) | (refine seq_skip rfl (by rfl) ?_; (try simp only [Act.put, List.setIfInBounds_toArray, List.set_cons_zero, List.set_cons_succ])))
      refine seq_do rfl (by rfl) (fun K hK => ?_)
      go_simp
      refine (HIS.out X1).mono ?_
      rintro e X2 ⟨rfl, hx⟩
      have hb2 := BT hb1 hx
      refine hK _ _ (hI.out _ hb2) ?_
      clear hK K hx
      (try simp only [Act.put, List.setIfInBounds_toArray, List.set_cons_zero, List.set_cons_succ])
      repeat (first | (refine seq_read rfl (by rfl) _ (fun w' hS => by (try dsimp only at hS); go_simp; (try with_reducible rfl)) ?_; (try simp only [Act.put, List.setIfInBounds_toArray, List.set_cons_zero, List.set_cons_succ])) | (refine seq_skip rfl (by rfl) ?_; (try simp only [Act.put, List.setIfInBounds_toArray, List.set_cons_zero, List.set_cons_succ])))
      refine seq_do rfl (by rfl) (fun K hK => ?_)
      go_simp
      refine (HOO.out X2 (BT HB0.out hb2)).mono ?_
      rintro e w1 ⟨rfl, hx⟩
      have hbe := BT hb2 hx
      refine hK _ _ (hI.out _ hbe) ?_
      clear hK K hx
      (try simp only [Act.put, List.setIfInBounds_toArray, List.set_cons_zero, List.set_cons_succ])
      repeat (first | (refine seq_read rfl (by rfl) _ (fun w' hS => by (try dsimp only at hS); go_simp; (try with_reducible rfl)) ?_; (try simp only [Act.put, List.setIfInBounds_toArray, List.set_cons_zero, List.set_cons_succ])) | (refine seq_skip rfl (by rfl) ?_; (try simp only [Act.put, List.setIfInBounds_toArray, List.set_cons_zero, List.set_cons_succ])))
      apply seq_end
      refine HF _ _ ?_
      first | show Exit.inBlock _ _ Exit.normal _ _ | show Exit.then _ _ Exit.normal _ _ | skip
      have hB := hbe
      clear hI hbe F HF Q HQ
      clear hb0
      clear hb1
      clear hb2
      have hs1 := HS1.out.below hB hl1
      have hs2 := HS2.out.below hB hl0
      obtain ⟨u0, r0, f0⟩ := hs1.get 0 (by omega)
      obtain ⟨u1, r1, f1⟩ := hs1.get 1 (by omega)
      obtain ⟨v0, t0, g0⟩ := hs2.get 0 (by omega)
      obtain ⟨v1, t1, g1⟩ := hs2.get 1 (by omega)
      have hfin := BC (BC (BC (BC (BT HB0.out hB) (w.heap.size + 1) 0 (by omega) (.int .i64 0)) (w.heap.size + 1) 1 (by omega) (.int .i64 0)) (w.heap.size + 1 + 1) 0 (by omega) (.int .i64 0)) (w.heap.size + 1 + 1) 1 (by omega) (.int .i64 0)
      clear hB hB0 hs1 hs2
      go_wp2_with fail
      exact bodyPost_ret (v := .tuple #[.agg #[.int .i64 0, .int .i64 0], .agg #[.int .i64 0, .int .i64 0], .int .i64 c]) (by simp [results, Tryz.results15, go_sem, r0, r1, t0, t1]) rfl ⟨rfl, hfin⟩
  | ok L =>
    have hoo := ho
    obtain ⟨hv, hbt, hLs, hne⟩ := openR_ok hoo
    have K := HK.out hv
    have hrg : ∀ k, k < L.length → 1 ≤ L.getD k 0 ∧ L.getD k 0 ≤ 1000 := fun k hk => by
      have h := scL_rng p ss a (k := k) (by rw [← hLs]; exact hk)
      rw [← hLs] at h
      have k0 := K.lo
      have k1 := K.hi
      omega
    have hl2 : L.length ≤ 1000 := by
      have k0 := K.lo
      have k1 := K.hi
      have := scTo_len (fun sc => crB ss sc a.testBit p.n) p.lo (p.hi + 1 - p.lo).toNat
      rw [hLs]; unfold scL; omega
    have HOO : Hid (∀ Y, Below w.heap.size w Y → Calls Tryz.prog 39 #[.agg #[.int .i64 p.lo, .int .i64 p.hi, .slice p.a p.n p.cap], .bool bv] Y (OpO (.ok L) Y)) := fun Y hY => by
      have h := HO.out bv Y hY
      rw [ho] at h; exact h
    subst hbt
    rw [Bool.and_eq_true] at hbv
    obtain ⟨hbv1, hbv2⟩ := hbv
    rw [hbv1] at HIM hbm
    rw [hbv2] at HIS hbn
    by_cases hmn : m = n
    · subst hmn
      have hmm : (m == m) = true := by simp
      clear hrg hl2 K HO HK HM
      dsimp only
      rw [if_pos rfl]
      go_enter Tryz.func15, Tryz.ntmps15
      have hI : Hid (∀ Y, Below W0.heap.size W0 Y → Y.cell? ⟨w.heap.size, 0, none⟩ = some (.int .i64 p.lo) ∧ Y.cell? ⟨w.heap.size, 1, none⟩ = some (.int .i64 p.hi) ∧ Y.cell? ⟨w.heap.size, 2, none⟩ = some (.slice p.a p.n p.cap)) := fun Y hY => by
        obtain ⟨z0, z1, z2⟩ := HQ.out.grown hY
        exact ⟨z0, z1, z2⟩
      go_upto_region 1 with fail
      clear hW0 b0 b1 b2
      have hb0 : Below W0.heap.size W0 W0.drew := Below.drew (Below.refl _ _)
      refine wp_region_seq [(0, true), (1, true), (2, true), (3, false), (4, true), (5, true), (6, true), (7, false), (8, true), (9, false), (10, true), (11, true), (12, true), (13, true), (14, true)] (fun Y => Y.cell? ⟨w.heap.size, 0, none⟩ = some (.int .i64 p.lo) ∧ Y.cell? ⟨w.heap.size, 1, none⟩ = some (.int .i64 p.hi) ∧ Y.cell? ⟨w.heap.size, 2, none⟩ = some (.slice p.a p.n p.cap)) (by kernel_rfl) (by kernel_rfl) (fun _ _ d _ _ h => by cases d <;> exact h) (hI.out _ hb0) ?_
      refine seq_free (fun F HF Q HQ => ?_)
      generalize W0.drew = X0 at *
      repeat (first | (refine seq_read rfl (by rfl) _ (fun w' hS => by (try dsimp only at hS); go_simp; (try with_reducible rfl)) ?_; (try simp only [Act.put, List.setIfInBounds_toArray, List.set_cons_zero, List.set_cons_succ])) | (refine seq_skip rfl (by rfl) ?_; (try simp only [Act.put, List.setIfInBounds_toArray, List.set_cons_zero, List.set_cons_succ])))
      refine seq_do rfl (by rfl) (fun K hK => ?_)
      go_simp
      refine (HIM.out X0).mono ?_
      rintro e X1 ⟨rfl, hx⟩
      have hb1 := BT hb0 hx
      refine hK _ _ (hI.out _ hb1) ?_
      clear hK K hx
      (try simp only [Act.put, List.setIfInBounds_toArray, List.set_cons_zero, List.set_cons_succ])
      repeat (first | (refine seq_read rfl (by rfl) _ (fun w' hS => by (try dsimp only at hS); go_simp; (try with_reducible rfl)) ?_; (try simp only [Act.put, List.setIfInBounds_toArray, List.set_cons_zero, List.set_cons_succ])) | (refine seq_skip rfl (by rfl) ?_; (try simp only [Act.put, List.setIfInBounds_toArray, List.set_cons_zero, List.set_cons_succ])))
      refine seq_do rfl (by rfl) (fun K hK => ?_)
      go_simp
      refine (HIS.out X1).mono ?_
      rintro e X2 ⟨rfl, hx⟩
      have hb2 := BT hb1 hx
      refine hK _ _ (hI.out _ hb2) ?_
      clear hK K hx
      (try simp only [Act.put, List.setIfInBounds_toArray, List.set_cons_zero, List.set_cons_succ])
      repeat (first | (refine seq_read rfl (by rfl) _ (fun w' hS => by (try dsimp only at hS); go_simp; (try with_reducible rfl)) ?_; (try simp only [Act.put, List.setIfInBounds_toArray, List.set_cons_zero, List.set_cons_succ])) | (refine seq_skip rfl (by rfl) ?_; (try simp only [Act.put, List.setIfInBounds_toArray, List.set_cons_zero, List.set_cons_succ])))
      refine seq_do rfl (by rfl) (fun K hK => ?_)
      go_simp
      refine (HOO.out X2 (BT HB0.out hb2)).mono ?_
      rintro e w1 ⟨sa, cap, rfl, hin, hx⟩
      have hB := BT hb2 hx
      refine hK _ _ (hI.out _ hB) ?_
      clear hK K hx
      (try simp only [Act.put, List.setIfInBounds_toArray, List.set_cons_zero, List.set_cons_succ])
      repeat (first | (refine seq_read rfl (by rfl) _ (fun w' hS => by (try dsimp only at hS); go_simp; (try with_reducible rfl)) ?_; (try simp only [Act.put, List.setIfInBounds_toArray, List.set_cons_zero, List.set_cons_succ])) | (refine seq_skip rfl (by rfl) ?_; (try simp only [Act.put, List.setIfInBounds_toArray, List.set_cons_zero, List.set_cons_succ])))
      apply seq_end
      refine HF _ _ ?_
      first | show Exit.inBlock _ _ Exit.normal _ _ | show Exit.then _ _ Exit.normal _ _ | skip
      clear hI hb0 hb1 hb2 F HF Q HQ
      have hs1 := HS1.out.below hB hl1
      have hs2 := HS2.out.below hB hl0
      obtain ⟨u0, r0, f0⟩ := hs1.get 0 (by omega)
      obtain ⟨u1, r1, f1⟩ := hs1.get 1 (by omega)
      obtain ⟨v0, t0, g0⟩ := hs2.get 0 (by omega)
      obtain ⟨v1, t1, g1⟩ := hs2.get 1 (by omega)
      have hfin := BC (BC (BC (BC (BT HB0.out hB) (w.heap.size + 1) 0 (by omega) (.int .i64 0)) (w.heap.size + 1) 1 (by omega) (.int .i64 0)) (w.heap.size + 1 + 1) 0 (by omega) (.int .i64 0)) (w.heap.size + 1 + 1) 1 (by omega) (.int .i64 0)
      clear hB hB0 hs1 hs2
      go_wp2_with fail
      exact bodyPost_ret (v := .tuple #[.agg #[.int .i64 0, .int .i64 0], .agg #[.int .i64 0, .int .i64 0], .int .i64 0]) (by simp [results, Tryz.results15, go_sem, r0, r1, t0, t1]) rfl ⟨rfl, hfin⟩
    dsimp only
    rw [if_neg hmn]
    have hmm : (m == n) = false := beq_eq_false_iff_ne.2 hmn
    obtain ⟨m', rfl⟩ : ∃ m' : Nat, m = m' := ⟨m.toNat, by simp at hbm; omega⟩
    obtain ⟨n', rfl⟩ : ∃ n' : Nat, n = n' := ⟨n.toNat, by simp at hbn; omega⟩
    have hm1 : m' < p.n := by simp at hbm; omega
    have hn1 : n' < p.n := by simp at hbn; omega
    have hn0 : (0 : Int) ≤ (n' : Int) := by omega
    have hm0 : (0 : Int) ≤ (m' : Int) := by omega
    rw [show ((m' : Nat) : Int).toNat = m' from by omega, show ((n' : Nat) : Int).toNat = n' from by omega]
    have HF0 : Hid (∀ sc Y, 1 ≤ sc → sc ≤ 1000 → Below w.heap.size w Y → Calls Tryz.prog 58 #[.agg #[.int .i64 p.lo, .int .i64 p.hi, .slice p.a p.n p.cap], .int .i64 (m' : Int), .int .i64 (n' : Int), .int .i64 sc, .bool false] Y (Ret (.agg #[.int .i64 (btw ss a p.n m' n' false sc).1, .int .i64 (btw ss a p.n m' n' false sc).2]) Y)) := fun sc Y h0 h1 hY => between_any p ss a m' n' sc false Y (HM.out.below hY (Nat.le_refl _)) K hm1 hn1 h0 h1
    have HF1 : Hid (∀ sc Y, 1 ≤ sc → sc ≤ 1000 → Below w.heap.size w Y → Calls Tryz.prog 58 #[.agg #[.int .i64 p.lo, .int .i64 p.hi, .slice p.a p.n p.cap], .int .i64 (m' : Int), .int .i64 (n' : Int), .int .i64 sc, .bool true] Y (Ret (.agg #[.int .i64 (btw ss a p.n m' n' true sc).1, .int .i64 (btw ss a p.n m' n' true sc).2]) Y)) := fun sc Y h0 h1 hY => between_any p ss a m' n' sc true Y (HM.out.below hY (Nat.le_refl _)) K hm1 hn1 h0 h1
    clear hv hLs hne K HO HK HM
    dsimp only
    generalize btw ss a p.n m' n' false = F0 at *
    generalize btw ss a p.n m' n' true = F1 at *
    go_enter Tryz.func15, Tryz.ntmps15
    have hI : Hid (∀ Y, Below W0.heap.size W0 Y → Y.cell? ⟨w.heap.size, 0, none⟩ = some (.int .i64 p.lo) ∧ Y.cell? ⟨w.heap.size, 1, none⟩ = some (.int .i64 p.hi) ∧ Y.cell? ⟨w.heap.size, 2, none⟩ = some (.slice p.a p.n p.cap)) := fun Y hY => by
      obtain ⟨z0, z1, z2⟩ := HQ.out.grown hY
      exact ⟨z0, z1, z2⟩
    go_upto_region 1 with fail
    clear hW0 b0 b1 b2
    have hb0 : Below W0.heap.size W0 W0.drew := Below.drew (Below.refl _ _)
    refine wp_region_seq [(0, true), (1, true), (2, true), (3, false), (4, true), (5, true), (6, true), (7, false), (8, true), (9, false), (10, true), (11, true), (12, true), (13, true), (14, true)] (fun Y => Y.cell? ⟨w.heap.size, 0, none⟩ = some (.int .i64 p.lo) ∧ Y.cell? ⟨w.heap.size, 1, none⟩ = some (.int .i64 p.hi) ∧ Y.cell? ⟨w.heap.size, 2, none⟩ = some (.slice p.a p.n p.cap)) (by kernel_rfl) (by kernel_rfl) (fun _ _ d _ _ h => by cases d <;> exact h) (hI.out _ hb0) ?_
    refine seq_free (fun F HF Q HQ => ?_)
    generalize W0.drew = X0 at *
    repeat (first | (refine seq_read rfl (by rfl) _ (fun w' hS => by (try dsimp only at hS); go_simp; (try with_reducible rfl)) ?_; (try simp only [Act.put, List.setIfInBounds_toArray, List.set_cons_zero, List.set_cons_succ])) | (refine seq_skip rfl (by rfl) ?_; (try simp only [Act.put, List.setIfInBounds_toArray, List.set_cons_zero, List.set_cons_succ])))
    refine seq_do rfl (by rfl) (fun K hK => ?_)
    go_simp
    refine (HIM.out X0).mono ?_
    rintro e X1 ⟨rfl, hx⟩
    have hb1 := BT hb0 hx
    refine hK _ _ (hI.out _ hb1) ?_
    clear hK K hx
    (try simp only [Act.put, List.setIfInBounds_toArray, List.set_cons_zero, List.set_cons_succ])
    repeat (first | (refine seq_read rfl (by rfl) _ (fun w' hS => by (try dsimp only at hS); go_simp; (try with_reducible rfl)) ?_; (try simp only [Act.put, List.setIfInBounds_toArray, List.set_cons_zero, List.set_cons_succ])) | (refine seq_skip rfl (by rfl) ?_; (try simp only [Act.put, List.setIfInBounds_toArray, List.set_cons_zero, List.set_cons_succ])))
    refine seq_do rfl (by rfl) (fun K hK => ?_)
    go_simp
    refine (HIS.out X1).mono ?_
    rintro e X2 ⟨rfl, hx⟩
    have hb2 := BT hb1 hx
    refine hK _ _ (hI.out _ hb2) ?_
    clear hK K hx
    (try simp only [Act.put, List.setIfInBounds_toArray, List.set_cons_zero, List.set_cons_succ])
    repeat (first | (refine seq_read rfl (by rfl) _ (fun w' hS => by (try dsimp only at hS); go_simp; (try with_reducible rfl)) ?_; (try simp only [Act.put, List.setIfInBounds_toArray, List.set_cons_zero, List.set_cons_succ])) | (refine seq_skip rfl (by rfl) ?_; (try simp only [Act.put, List.setIfInBounds_toArray, List.set_cons_zero, List.set_cons_succ])))
    refine seq_do rfl (by rfl) (fun K hK => ?_)
    go_simp
    refine (HOO.out X2 (BT HB0.out hb2)).mono ?_
    rintro e w1 ⟨sa, cap, rfl, hin, hx⟩
    have hB := BT hb2 hx
    refine hK _ _ (hI.out _ hB) ?_
    clear hK K hx
    (try simp only [Act.put, List.setIfInBounds_toArray, List.set_cons_zero, List.set_cons_succ])
    repeat (first | (refine seq_read rfl (by rfl) _ (fun w' hS => by (try dsimp only at hS); go_simp; (try with_reducible rfl)) ?_; (try simp only [Act.put, List.setIfInBounds_toArray, List.set_cons_zero, List.set_cons_succ])) | (refine seq_skip rfl (by rfl) ?_; (try simp only [Act.put, List.setIfInBounds_toArray, List.set_cons_zero, List.set_cons_succ])))
    apply seq_end
    refine HF _ _ ?_
    first | show Exit.inBlock _ _ Exit.normal _ _ | show Exit.then _ _ Exit.normal _ _ | skip
    clear hI hb0 hb1 F HF Q HQ
    have hn8 : W0.heap.size ≤ w1.heap.size := hB.size
    obtain ⟨W1, hW1⟩ : ∃ X, (w1.alloc (.cells #[.int .i64 0, .int .i64 0] 23)).alloc (.cells #[.int .i64 0, .int .i64 0] 23) = X := ⟨_, rfl⟩
    have hx : Below w1.heap.size w1 W1 := by rw [← hW1]; exact BA (newB _ _) _
    have sA : Spn2 W1 w1.heap.size 0 0 := by rw [← hW1]; exact (spn2_new w1 0 0 _).grown (newB _ _)
    have sB : Spn2 W1 (w1.heap.size + 1) 0 0 := by
      rw [← hW1]
      have h := spn2_new (w1.alloc (.cells #[.int .i64 0, .int .i64 0] 23)) 0 0 23
      rw [World.size_alloc] at h
      exact h
    have hB1 : Below W0.heap.size W0 W1 := BT hB hx
    have HIN : Hid (∀ Y, Below w1.heap.size w1 Y → IntsIn Y sa L) := fun Y hY => hin.below hY
    have hbx := hx
    go_wp2_with fail
    clear hW1 hin
    go_loopw [13] (fun i wz => ∃ k : Nat, k ≤ L.length ∧ i = .int .i64 k ∧ Spn2 wz w1.heap.size (hl F0 L k).1 (hl F0 L k).2 ∧ Spn2 wz (w1.heap.size + 1) (hl F1 L k).1 (hl F1 L k).2 ∧ Below w1.heap.size w1 wz) (fun i _ => L.length - (intOf i).toNat)
    case atStart => exact ⟨0, by omega, rfl, sA, sB, hx⟩
    case round =>
      clear sA sB hx hbx hB1
      obtain ⟨k, hk, rfl, sA, sB, hx⟩ := hrel
      obtain ⟨wo, rfl⟩ : ∃ wo : World, wo = wr := ⟨_, rfl⟩
      have hk0 : (0 : Int) ≤ (k : Int) := by omega
      by_cases hlt : k < L.length
      · skip
        have hki : (k : Int) < (L.length : Int) := by omega
        obtain ⟨g, hsa, hg, hc⟩ : ∃ g, sa = some ⟨g, 0, none⟩ ∧ g < w1.heap.size ∧ ∀ k, k < L.length → w1.cell? ⟨g, k, none⟩ = some (.int .i64 (L.getD k 0)) := by
          rcases HIN.out w1 (Below.refl _ _) with h | h
          · subst h; simp at hlt
          · exact h
        subst hsa
        have hcell : Hid (∀ Y, Below w1.heap.size w1 Y → Y.cell? ⟨g, k, none⟩ = some (.int .i64 (L.getD k 0))) := fun Y hY => (hY.cell (p := ⟨g, k, none⟩) hg).trans (hc k hlt)
        obtain ⟨x1, x2⟩ := hrg k hlt
        have HX0 := Lib.hid (fun Y => HF0.out (L.getD k 0) Y x1 x2)
        have HX1 := Lib.hid (fun Y => HF1.out (L.getD k 0) Y x1 x2)
        obtain ⟨bk, hbk⟩ : ∃ bk, ((k : Int) == 0) = bk := ⟨_, rfl⟩
        have hs0 := hl_step F0 L hbk
        have hs1 := hl_step F1 L hbk
        generalize L.getD k 0 = x at *
        generalize hl F0 L k = m0 at *
        generalize hl F1 L k = m1 at *
        generalize F0 x = q0 at *
        generalize F1 x = q1 at *
        obtain ⟨m00, m01⟩ := m0
        obtain ⟨m10, m11⟩ := m1
        obtain ⟨q00, q01⟩ := q0
        obtain ⟨q10, q11⟩ := q1
        dsimp only at hs0 hs1 sA sB HX0 HX1
        have HS0 := Lib.hid hs0
        have HS1' := Lib.hid hs1
        have HBK := Lib.hid hbk
        clear hs0 hs1 hbk hc
        have hbo : Hid (∀ Y, Below w1.heap.size w1 Y → Y.cell? ⟨w.heap.size, 0, none⟩ = some (.int .i64 p.lo) ∧ Y.cell? ⟨w.heap.size, 1, none⟩ = some (.int .i64 p.hi) ∧ Y.cell? ⟨w.heap.size, 2, none⟩ = some (.slice p.a p.n p.cap)) := fun Y hY => by
          obtain ⟨z0, z1, z2⟩ := HQ.out.grown (BT hB hY)
          exact ⟨z0, z1, z2⟩
        have hI : Hid (∀ Y, Below wo.heap.size wo Y → Y.cell? ⟨w1.heap.size, 0, none⟩ = some (.int .i64 m00) ∧ Y.cell? ⟨w1.heap.size, 1, none⟩ = some (.int .i64 m01) ∧ Y.cell? ⟨w.heap.size, 0, none⟩ = some (.int .i64 p.lo) ∧ Y.cell? ⟨w.heap.size, 1, none⟩ = some (.int .i64 p.hi) ∧ Y.cell? ⟨w.heap.size, 2, none⟩ = some (.slice p.a p.n p.cap) ∧ Y.cell? ⟨g, k, none⟩ = some (.int .i64 x)) := fun Y hY => by
          obtain ⟨z0, z1, z2⟩ := hbo.out Y (BT hx hY)
          exact ⟨(sA.grown hY).c0, (sA.grown hY).c1, z0, z1, z2, hcell.out Y (BT hx hY)⟩
        have hb0 : Below wo.heap.size wo wo.drew := Below.drew (Below.refl _ _)
        go_upto_region 8 with fail
        refine wp_region_seq [(0, true), (1, true), (2, true), (3, true), (4, true), (5, true), (6, true), (7, true), (9, true), (10, true), (8, false), (11, false), (12, false)] (fun Y => Y.cell? ⟨w1.heap.size, 0, none⟩ = some (.int .i64 m00) ∧ Y.cell? ⟨w1.heap.size, 1, none⟩ = some (.int .i64 m01) ∧ Y.cell? ⟨w.heap.size, 0, none⟩ = some (.int .i64 p.lo) ∧ Y.cell? ⟨w.heap.size, 1, none⟩ = some (.int .i64 p.hi) ∧ Y.cell? ⟨w.heap.size, 2, none⟩ = some (.slice p.a p.n p.cap) ∧ Y.cell? ⟨g, k, none⟩ = some (.int .i64 x)) (by kernel_rfl) (by kernel_rfl) (fun _ _ d _ _ h => by cases d <;> exact h) (hI.out _ hb0) ?_
        refine seq_free (fun F HF Q HQ => ?_)
        generalize wo.drew = X0 at *
        repeat (first | (refine seq_read rfl (by rfl) _ (fun w' hS => by (try dsimp only at hS); go_simp; (try with_reducible rfl)) ?_; (try simp only [Act.put, List.setIfInBounds_toArray, List.set_cons_zero, List.set_cons_succ])) | (refine seq_skip rfl (by rfl) ?_; (try simp only [Act.put, List.setIfInBounds_toArray, List.set_cons_zero, List.set_cons_succ])))
        refine seq_do rfl (by rfl) (fun K hK => ?_)
        go_simp
        refine (HX0.out X0 (BT HB0.out (BT hB (BT hx hb0)))).mono ?_
        rintro e X1 ⟨rfl, hy⟩
        have hb1 := BT hb0 hy
        refine hK _ _ (hI.out _ hb1) ?_
        clear hK K hy
        (try simp only [Act.put, List.setIfInBounds_toArray, List.set_cons_zero, List.set_cons_succ])
        repeat (first | (refine seq_read rfl (by rfl) _ (fun w' hS => by (try dsimp only at hS); go_simp; (try with_reducible rfl)) ?_; (try simp only [Act.put, List.setIfInBounds_toArray, List.set_cons_zero, List.set_cons_succ])) | (refine seq_skip rfl (by rfl) ?_; (try simp only [Act.put, List.setIfInBounds_toArray, List.set_cons_zero, List.set_cons_succ])))
        rw [HBK.out]
        refine seq_do rfl (by rfl) (fun K hK => ?_)
        go_simp
        refine (hull_any m00 m01 q00 q01 bk X1).mono ?_
        rintro e X2 ⟨rfl, hy⟩
        have hb2 := BT hb1 hy
        refine hK _ _ (hI.out _ hb2) ?_
        clear hK K hy
        (try simp only [Act.put, List.setIfInBounds_toArray, List.set_cons_zero, List.set_cons_succ])
        repeat (first | (refine seq_read rfl (by rfl) _ (fun w' hS => by (try dsimp only at hS); go_simp; (try with_reducible rfl)) ?_; (try simp only [Act.put, List.setIfInBounds_toArray, List.set_cons_zero, List.set_cons_succ])) | (refine seq_skip rfl (by rfl) ?_; (try simp only [Act.put, List.setIfInBounds_toArray, List.set_cons_zero, List.set_cons_succ])))
        obtain ⟨n0, hn0⟩ : ∃ n0, (if bk then q00 else min m00 q00) = n0 := ⟨_, rfl⟩
        obtain ⟨n1, hn1⟩ : ∃ n1, (if bk then q01 else max m01 q01) = n1 := ⟨_, rfl⟩
        rw [hn0, hn1]
        have hn0a := Lib.hid hn0
        have hn1a := Lib.hid hn1
        clear hn0 hn1
        have hxx := BC (BC (BT hx hb2) (w1.heap.size) 0 (by omega) (.int .i64 n0)) (w1.heap.size) 1 (by omega) (.int .i64 n1)
        have sA2 := sA.grown hb2
        have sB2 := sB.grown hb2
        obtain ⟨z0, z1, z2, z3⟩ := id sA2
        refine seq_last rfl (by rfl) (by kernel_rfl) (fun K hK => ?_)
        go_simp
        refine hK _ _ ?_
        clear hK K z0 z1 z2 z3
        (try simp only [Act.put, List.setIfInBounds_toArray, List.set_cons_zero, List.set_cons_succ])
        refine HF _ _ ?_
        first | show Exit.inBlock _ _ Exit.normal _ _ | show Exit.then _ _ Exit.normal _ _ | skip
        replace sB2 := (sB2.put (B := w1.heap.size) (by omega) 0 (.int .i64 n0)).put (B := w1.heap.size) (by omega) 1 (.int .i64 n1)
        replace sA2 := sA2.set n0 n1
        clear sA sB hx hI hb0 hb1 hb2 F HF Q HQ
        have sA := sA2
        have sB := sB2
        have hx := hxx
        clear sA2 sB2 hxx
        generalize (X2.setCell ⟨w1.heap.size, 0, none⟩ (.int .i64 n0)).setCell ⟨w1.heap.size, 1, none⟩ (.int .i64 n1) = Va at *
        generalize n0 = n0av at *
        generalize n1 = n1av at *
        have hI : Hid (∀ Y, Below Va.heap.size Va Y → Y.cell? ⟨w1.heap.size + 1, 0, none⟩ = some (.int .i64 m10) ∧ Y.cell? ⟨w1.heap.size + 1, 1, none⟩ = some (.int .i64 m11) ∧ Y.cell? ⟨w.heap.size, 0, none⟩ = some (.int .i64 p.lo) ∧ Y.cell? ⟨w.heap.size, 1, none⟩ = some (.int .i64 p.hi) ∧ Y.cell? ⟨w.heap.size, 2, none⟩ = some (.slice p.a p.n p.cap) ∧ Y.cell? ⟨g, k, none⟩ = some (.int .i64 x)) := fun Y hY => by
          obtain ⟨z0, z1, z2⟩ := hbo.out Y (BT hx hY)
          exact ⟨(sB.grown hY).c0, (sB.grown hY).c1, z0, z1, z2, hcell.out Y (BT hx hY)⟩
        have hb0 : Below Va.heap.size Va Va.drew := Below.drew (Below.refl _ _)
        go_upto_region 9 with fail
        refine wp_region_seq [(0, true), (1, true), (2, true), (3, true), (4, true), (5, true), (6, true), (7, true), (9, true), (10, true), (8, false), (11, false), (12, false)] (fun Y => Y.cell? ⟨w1.heap.size + 1, 0, none⟩ = some (.int .i64 m10) ∧ Y.cell? ⟨w1.heap.size + 1, 1, none⟩ = some (.int .i64 m11) ∧ Y.cell? ⟨w.heap.size, 0, none⟩ = some (.int .i64 p.lo) ∧ Y.cell? ⟨w.heap.size, 1, none⟩ = some (.int .i64 p.hi) ∧ Y.cell? ⟨w.heap.size, 2, none⟩ = some (.slice p.a p.n p.cap) ∧ Y.cell? ⟨g, k, none⟩ = some (.int .i64 x)) (by kernel_rfl) (by kernel_rfl) (fun _ _ d _ _ h => by cases d <;> exact h) (hI.out _ hb0) ?_
        refine seq_free (fun F HF Q HQ => ?_)
        generalize Va.drew = X0 at *
        repeat (first | (refine seq_read rfl (by rfl) _ (fun w' hS => by (try dsimp only at hS); go_simp; (try with_reducible rfl)) ?_; (try simp only [Act.put, List.setIfInBounds_toArray, List.set_cons_zero, List.set_cons_succ])) | (refine seq_skip rfl (by rfl) ?_; (try simp only [Act.put, List.setIfInBounds_toArray, List.set_cons_zero, List.set_cons_succ])))
        refine seq_do rfl (by rfl) (fun K hK => ?_)
        go_simp
        refine (HX1.out X0 (BT HB0.out (BT hB (BT hx hb0)))).mono ?_
        rintro e X1 ⟨rfl, hy⟩
        have hb1 := BT hb0 hy
        refine hK _ _ (hI.out _ hb1) ?_
        clear hK K hy
        (try simp only [Act.put, List.setIfInBounds_toArray, List.set_cons_zero, List.set_cons_succ])
        repeat (first | (refine seq_read rfl (by rfl) _ (fun w' hS => by (try dsimp only at hS); go_simp; (try with_reducible rfl)) ?_; (try simp only [Act.put, List.setIfInBounds_toArray, List.set_cons_zero, List.set_cons_succ])) | (refine seq_skip rfl (by rfl) ?_; (try simp only [Act.put, List.setIfInBounds_toArray, List.set_cons_zero, List.set_cons_succ])))
        rw [HBK.out]
        refine seq_do rfl (by rfl) (fun K hK => ?_)
        go_simp
        refine (hull_any m10 m11 q10 q11 bk X1).mono ?_
        rintro e X2 ⟨rfl, hy⟩
        have hb2 := BT hb1 hy
        refine hK _ _ (hI.out _ hb2) ?_
        clear hK K hy
        (try simp only [Act.put, List.setIfInBounds_toArray, List.set_cons_zero, List.set_cons_succ])
        repeat (first | (refine seq_read rfl (by rfl) _ (fun w' hS => by (try dsimp only at hS); go_simp; (try with_reducible rfl)) ?_; (try simp only [Act.put, List.setIfInBounds_toArray, List.set_cons_zero, List.set_cons_succ])) | (refine seq_skip rfl (by rfl) ?_; (try simp only [Act.put, List.setIfInBounds_toArray, List.set_cons_zero, List.set_cons_succ])))
        obtain ⟨n0, hn0⟩ : ∃ n0, (if bk then q10 else min m10 q10) = n0 := ⟨_, rfl⟩
        obtain ⟨n1, hn1⟩ : ∃ n1, (if bk then q11 else max m11 q11) = n1 := ⟨_, rfl⟩
        rw [hn0, hn1]
        have hn0b := Lib.hid hn0
        have hn1b := Lib.hid hn1
        clear hn0 hn1
        have hxx := BC (BC (BT hx hb2) (w1.heap.size + 1) 0 (by omega) (.int .i64 n0)) (w1.heap.size + 1) 1 (by omega) (.int .i64 n1)
        have sA2 := sA.grown hb2
        have sB2 := sB.grown hb2
        obtain ⟨z0, z1, z2, z3⟩ := id sB2
        refine seq_last rfl (by rfl) (by kernel_rfl) (fun K hK => ?_)
        go_simp
        refine hK _ _ ?_
        clear hK K z0 z1 z2 z3
        (try simp only [Act.put, List.setIfInBounds_toArray, List.set_cons_zero, List.set_cons_succ])
        refine HF _ _ ?_
        first | show Exit.inBlock _ _ Exit.normal _ _ | show Exit.then _ _ Exit.normal _ _ | skip
        replace sA2 := (sA2.put (B := w1.heap.size + 1) (by omega) 0 (.int .i64 n0)).put (B := w1.heap.size + 1) (by omega) 1 (.int .i64 n1)
        replace sB2 := sB2.set n0 n1
        clear sA sB hx hI hb0 hb1 hb2 F HF Q HQ
        have sA := sA2
        have sB := sB2
        have hx := hxx
        clear sA2 sB2 hxx
        generalize (X2.setCell ⟨w1.heap.size + 1, 0, none⟩ (.int .i64 n0)).setCell ⟨w1.heap.size + 1, 1, none⟩ (.int .i64 n1) = Vb at *
        generalize n0 = n0bv at *
        generalize n1 = n1bv at *
        go_wp2_with fail
        go_roundw
        case rel => exact ⟨k + 1, by omega, by go_num, by rw [HS0.out]; dsimp only; rw [hn0a.out, hn1a.out]; exact sA, by rw [HS1'.out]; dsimp only; rw [hn0b.out, hn1b.out]; exact sB, hx⟩
        case measure => simp [intOf]; omega
      · obtain rfl : k = L.length := by omega
        clear hrg HF0 HF1 HOO
        generalize hl F0 L L.length = m0 at *
        generalize hl F1 L L.length = m1 at *
        obtain ⟨m00, m01⟩ := m0
        obtain ⟨m10, m11⟩ := m1
        dsimp only at sA sB ⊢
        have hs1 := HS1.out.below (BT hB hx) hl1
        have hs2 := HS2.out.below (BT hB hx) hl0
        go_upto_region 10 with fail
        refine wp_region_seq [(0, true), (1, true), (2, false), (3, false), (4, true)] (fun Y => Y.cell? ⟨w1.heap.size, 0, none⟩ = some (.int .i64 m00) ∧ Y.cell? ⟨w1.heap.size, 1, none⟩ = some (.int .i64 m01) ∧ Y.cell? ⟨w1.heap.size + 1, 0, none⟩ = some (.int .i64 m10) ∧ Y.cell? ⟨w1.heap.size + 1, 1, none⟩ = some (.int .i64 m11)) (by kernel_rfl) (by kernel_rfl) (fun _ _ d _ _ h => by cases d <;> exact h) ⟨by simpa using sA.c0, by simpa using sA.c1, by simpa using sB.c0, by simpa using sB.c1⟩ ?_
        have hbd : Below wo.heap.size wo wo.drew := Below.drew (Below.refl _ _)
        replace sA := sA.grown hbd
        replace sB := sB.grown hbd
        replace hs1 := hs1.drew
        replace hs2 := hs2.drew
        have hfin := BC (BC (BC (BC (BT HB0.out (BT hB (BT hx hbd))) (w.heap.size + 1) 0 (by omega) (.int .i64 m00)) (w.heap.size + 1) 1 (by omega) (.int .i64 m01)) (w.heap.size + 1 + 1) 0 (by omega) (.int .i64 m10)) (w.heap.size + 1 + 1) 1 (by omega) (.int .i64 m11)
        clear hx hbd
        generalize wo.drew = X0 at *
        refine seq_free (fun F HF Q HQ => ?_)
        repeat (first | (refine seq_read rfl (by rfl) _ (fun w' hS => by (try dsimp only at hS); go_simp; (try with_reducible rfl)) ?_; (try simp only [Act.put, List.setIfInBounds_toArray, List.set_cons_zero, List.set_cons_succ])) | (refine seq_skip rfl (by rfl) ?_; (try simp only [Act.put, List.setIfInBounds_toArray, List.set_cons_zero, List.set_cons_succ])))
        refine seq_do rfl (by rfl) (fun K hK => ?_)
        obtain ⟨u0, r0, f0⟩ := hs1.get 0 (by omega)
        obtain ⟨u1, r1, f1⟩ := hs1.get 1 (by omega)
        obtain ⟨v0, t0, g0⟩ := hs2.get 0 (by omega)
        obtain ⟨v1, t1, g1⟩ := hs2.get 1 (by omega)
        replace sA := (sA.put (B := w.heap.size + 1) (by omega) 0 (.int .i64 m00)).put (B := w.heap.size + 1) (by omega) 1 (.int .i64 m01)
        replace sB := (sB.put (B := w.heap.size + 1) (by omega) 0 (.int .i64 m00)).put (B := w.heap.size + 1) (by omega) 1 (.int .i64 m01)
        go_simp
        refine hK _ _ ⟨sA.c0, sA.c1, sB.c0, sB.c1⟩ ?_
        clear hK K
        (try simp only [Act.put, List.setIfInBounds_toArray, List.set_cons_zero, List.set_cons_succ])
        repeat (first | (refine seq_read rfl (by rfl) _ (fun w' hS => by (try dsimp only at hS); go_simp; (try with_reducible rfl)) ?_; (try simp only [Act.put, List.setIfInBounds_toArray, List.set_cons_zero, List.set_cons_succ])) | (refine seq_skip rfl (by rfl) ?_; (try simp only [Act.put, List.setIfInBounds_toArray, List.set_cons_zero, List.set_cons_succ])))
        replace sA := (sA.put (B := w.heap.size + 1 + 1) (by omega) 0 (.int .i64 m10)).put (B := w.heap.size + 1 + 1) (by omega) 1 (.int .i64 m11)
        replace sB := (sB.put (B := w.heap.size + 1 + 1) (by omega) 0 (.int .i64 m10)).put (B := w.heap.size + 1 + 1) (by omega) 1 (.int .i64 m11)
        refine seq_do rfl (by rfl) (fun K hK => ?_)
        go_simp
        refine hK _ _ ⟨sA.c0, sA.c1, sB.c0, sB.c1⟩ ?_
        clear hK K sA sB
        (try simp only [Act.put, List.setIfInBounds_toArray, List.set_cons_zero, List.set_cons_succ])
        repeat (first | (refine seq_read rfl (by rfl) _ (fun w' hS => by (try dsimp only at hS); go_simp; (try with_reducible rfl)) ?_; (try simp only [Act.put, List.setIfInBounds_toArray, List.set_cons_zero, List.set_cons_succ])) | (refine seq_skip rfl (by rfl) ?_; (try simp only [Act.put, List.setIfInBounds_toArray, List.set_cons_zero, List.set_cons_succ])))
        apply seq_end
        refine HF _ _ ?_
        first | show Exit.inBlock _ _ Exit.normal _ _ | show Exit.then _ _ Exit.normal _ _ | skip
        go_wp2_with fail
        exact bodyPost_ret (v := .tuple #[.agg #[.int .i64 m00, .int .i64 m01], .agg #[.int .i64 m10, .int .i64 m11], .int .i64 0]) (by simp [results, Tryz.results15, go_sem, r0, r1, t0, t1]) rfl ⟨rfl, hfin⟩
end Go.Proofs.YtdkegkacpdkjgaaGreat

namespace Go.Proofs.YtdkegkacpdkjgaaGreat
open Go.RowKit

def zeroRR (p : Pl) (ss : List St) (a : Nat) : (Int × Int) × (Int × Int) × Int := tupR (doubtR p ss a true) (fun sc => crR ss sc a.testBit false p.n) (fun sc => crR ss sc a.testBit true p.n)
set_option maxRecDepth 100000 in
set_option maxHeartbeats 8000000 in
theorem zeroRR_any (p : Pl) (ss : List St) (a : Nat) (w : World) (hm : PlAt p ss w) (hk : plB p ss = true → KnO p ss a) :
    Calls Tryz.prog 11 #[p.val] w (Ret (.tuple #[.agg #[.int .i64 ((zeroRR p ss a).1).1, .int .i64 ((zeroRR p ss a).1).2], .agg #[.int .i64 ((zeroRR p ss a).2.1).1, .int .i64 ((zeroRR p ss a).2.1).2], .int .i64 (zeroRR p ss a).2.2]) w) := by
  have HO : Hid (∀ b Y, Below w.heap.size w Y → Calls Tryz.prog 45 #[.agg #[.int .i64 p.lo, .int .i64 p.hi, .slice p.a p.n p.cap], .bool b] Y (OpO (doubtR p ss a b) Y)) := fun b Y hY => doubt_any p ss a b Y (hm.below hY (Nat.le_refl _)) hk
  obtain ⟨W0, hW0⟩ : ∃ X, ((w.alloc (.cells #[.int .i64 p.lo, .int .i64 p.hi, .slice p.a p.n p.cap] 26)).alloc (.cells #[.int .i64 0, .int .i64 0] 23)).alloc (.cells #[.int .i64 0, .int .i64 0] 23) = X := ⟨_, rfl⟩
  have hB0 : Below w.heap.size w W0 := by rw [← hW0]; exact BA (BA (newB _ _) _) _
  have hQ : BoxP W0 w.heap.size p := by rw [← hW0]; exact ((boxP_new w p _).grown (newB _ _)).grown (newB _ _)
  have hR1 : Slots (w.heap.size + 1) 2 W0 := by
    rw [← hW0]
    have h := slots_new2r (w.alloc (.cells #[.int .i64 p.lo, .int .i64 p.hi, .slice p.a p.n p.cap] 26)) 23
    rw [World.size_alloc] at h
    exact h.below (newB _ _) (by simp)
  have hR2 : Slots (w.heap.size + 1 + 1) 2 W0 := by
    rw [← hW0]
    have h := slots_new2r ((w.alloc (.cells #[.int .i64 p.lo, .int .i64 p.hi, .slice p.a p.n p.cap] 26)).alloc (.cells #[.int .i64 0, .int .i64 0] 23)) 23
    rw [World.size_alloc, World.size_alloc] at h
    exact h
  have hl0 := hR2.lt2r
  have hl1 : w.heap.size + 1 < W0.heap.size := by omega
  have HB0 := Lib.hid hB0
  have HS1 := Lib.hid hR1
  have HS2 := Lib.hid hR2
  have HQ := Lib.hid hQ
  obtain ⟨b0, b1, b2⟩ := id hQ
  have HK := Lib.hid hk
  have HM := Lib.hid hm
  clear hQ hm hk hR1 hR2
  unfold zeroRR Pl.val
  cases ho : doubtR p ss a true with
  | error c =>
    have hc := doubtR_err ho
    have hc2 : (c == 0) = false := by simpa using hc
    have hc3 : (c != 0) = true := by simpa using hc
    have HOO : Hid (∀ Y, Below w.heap.size w Y → Calls Tryz.prog 45 #[.agg #[.int .i64 p.lo, .int .i64 p.hi, .slice p.a p.n p.cap], .bool true] Y (OpO (.error c) Y)) := fun Y hY => by
      have h := HO.out true Y hY
      rw [ho] at h; exact h
    clear ho HO HK HM
    unfold tupR
    dsimp only
    go_enter Tryz.func11, Tryz.ntmps11
    go_wp2_with fail
    clear hW0 b0 b1 b2
    refine (HOO.out W0 HB0.out).mono ?_
    rintro e w1 ⟨rfl, hx⟩
    have hB := hx
    have hs1 := HS1.out.below hB hl1
    have hs2 := HS2.out.below hB hl0
    obtain ⟨u0, r0, f0⟩ := hs1.get 0 (by omega)
    obtain ⟨u1, r1, f1⟩ := hs1.get 1 (by omega)
    obtain ⟨v0, t0, g0⟩ := hs2.get 0 (by omega)
    obtain ⟨v1, t1, g1⟩ := hs2.get 1 (by omega)
    have hfin := BC (BC (BC (BC (BT HB0.out hB) (w.heap.size + 1) 0 (by omega) (.int .i64 0)) (w.heap.size + 1) 1 (by omega) (.int .i64 0)) (w.heap.size + 1 + 1) 0 (by omega) (.int .i64 0)) (w.heap.size + 1 + 1) 1 (by omega) (.int .i64 0)
    clear hB hB0 hs1 hs2
    go_wp2_with fail
    exact bodyPost_ret (v := .tuple #[.agg #[.int .i64 0, .int .i64 0], .agg #[.int .i64 0, .int .i64 0], .int .i64 c]) (by simp [results, Tryz.results11, go_sem, r0, r1, t0, t1]) rfl ⟨rfl, hfin⟩
  | ok L =>
    obtain ⟨hoo, ha0⟩ := doubtR_ok ho
    obtain ⟨hv, hbt, hLs, hne⟩ := openR_ok hoo
    have K := HK.out hv
    have hrg : ∀ k, k < L.length → 1 ≤ L.getD k 0 ∧ L.getD k 0 ≤ 1000 := fun k hk => by
      have h := scL_rng p ss a (k := k) (by rw [← hLs]; exact hk)
      rw [← hLs] at h
      have k0 := K.lo
      have k1 := K.hi
      omega
    have hl2 : L.length ≤ 1000 := by
      have k0 := K.lo
      have k1 := K.hi
      have := scTo_len (fun sc => crB ss sc a.testBit p.n) p.lo (p.hi + 1 - p.lo).toNat
      rw [hLs]; unfold scL; omega
    have HOO : Hid (∀ Y, Below w.heap.size w Y → Calls Tryz.prog 45 #[.agg #[.int .i64 p.lo, .int .i64 p.hi, .slice p.a p.n p.cap], .bool true] Y (OpO (.ok L) Y)) := fun Y hY => by
      have h := HO.out true Y hY
      rw [ho] at h; exact h
    have HKN : Hid (∀ Y, Below w.heap.size w Y → Calls Tryz.prog 48 #[.agg #[.int .i64 p.lo, .int .i64 p.hi, .slice p.a p.n p.cap]] Y (Ret (.int .i64 (a : Int)) Y)) := fun Y hY => by
      have h := knownR_any p ss Y (HM.out.below hY (Nat.le_refl _)) K.ok.n
      rw [K.e] at h; exact h
    have HF0 : Hid (∀ sc Y, 1 ≤ sc → sc ≤ 1000 → Below w.heap.size w Y → Calls Tryz.prog 47 #[.agg #[.int .i64 p.lo, .int .i64 p.hi, .slice p.a p.n p.cap], .int .i64 (a : Int), .int .i64 sc, .bool false] Y (Ret (.agg #[.int .i64 (crR ss sc a.testBit false p.n).1, .int .i64 (crR ss sc a.testBit false p.n).2]) Y)) := fun sc Y h0 h1 hY => corner_any p ss a sc false Y (HM.out.below hY (Nat.le_refl _)) (fun i hi => K.ok.st i hi false) K.ok.n K.ok.lt K.ok.k (by omega) h1
    have HF1 : Hid (∀ sc Y, 1 ≤ sc → sc ≤ 1000 → Below w.heap.size w Y → Calls Tryz.prog 47 #[.agg #[.int .i64 p.lo, .int .i64 p.hi, .slice p.a p.n p.cap], .int .i64 (a : Int), .int .i64 sc, .bool true] Y (Ret (.agg #[.int .i64 (crR ss sc a.testBit true p.n).1, .int .i64 (crR ss sc a.testBit true p.n).2]) Y)) := fun sc Y h0 h1 hY => corner_any p ss a sc true Y (HM.out.below hY (Nat.le_refl _)) (fun i hi => K.ok.st i hi true) K.ok.n K.ok.lt K.ok.k (by omega) h1
    clear ho hoo ha0 hv hbt hLs hne K HO HK HM
    unfold tupR
    dsimp only
    obtain ⟨F0, hF0⟩ : ∃ F0 : Int → Int × Int, (fun sc => crR ss sc a.testBit false p.n) = F0 := ⟨_, rfl⟩
    obtain ⟨F1, hF1⟩ : ∃ F1 : Int → Int × Int, (fun sc => crR ss sc a.testBit true p.n) = F1 := ⟨_, rfl⟩
    have e0 : ∀ sc, crR ss sc a.testBit false p.n = F0 sc := fun sc => congrFun hF0 sc
    have e1 : ∀ sc, crR ss sc a.testBit true p.n = F1 sc := fun sc => congrFun hF1 sc
    rw [hF0, hF1]
    simp only [e0] at HF0
    simp only [e1] at HF1
    clear hF0 hF1 e0 e1
    go_enter Tryz.func11, Tryz.ntmps11
    go_wp2_with fail
    clear hW0 b0 b1 b2
    refine (HOO.out W0 HB0.out).mono ?_
    rintro e w1 ⟨sa, cap, rfl, hin, hB⟩
    have hn8 : W0.heap.size ≤ w1.heap.size := hB.size
    obtain ⟨W1, hW1⟩ : ∃ X, (w1.alloc (.cells #[.int .i64 0, .int .i64 0] 23)).alloc (.cells #[.int .i64 0, .int .i64 0] 23) = X := ⟨_, rfl⟩
    have hx : Below w1.heap.size w1 W1 := by rw [← hW1]; exact BA (newB _ _) _
    have sA : Spn2 W1 w1.heap.size 0 0 := by rw [← hW1]; exact (spn2_new w1 0 0 _).grown (newB _ _)
    have sB : Spn2 W1 (w1.heap.size + 1) 0 0 := by
      rw [← hW1]
      have h := spn2_new (w1.alloc (.cells #[.int .i64 0, .int .i64 0] 23)) 0 0 23
      rw [World.size_alloc] at h
      exact h
    have hB1 : Below W0.heap.size W0 W1 := BT hB hx
    have HIN : Hid (∀ Y, Below w1.heap.size w1 Y → IntsIn Y sa L) := fun Y hY => hin.below hY
    have hbx := hx
    go_wp2_with fail
    clear hW1 hin
    go_loopw [9] (fun i wz => ∃ k : Nat, k ≤ L.length ∧ i = .int .i64 k ∧ Spn2 wz w1.heap.size (hl F0 L k).1 (hl F0 L k).2 ∧ Spn2 wz (w1.heap.size + 1) (hl F1 L k).1 (hl F1 L k).2 ∧ Below w1.heap.size w1 wz) (fun i _ => L.length - (intOf i).toNat)
    case atStart => exact ⟨0, by omega, rfl, sA, sB, hx⟩
    case round =>
      clear sA sB hx hbx hB1
      obtain ⟨k, hk, rfl, sA, sB, hx⟩ := hrel
      obtain ⟨wo, rfl⟩ : ∃ wo : World, wo = wr := ⟨_, rfl⟩
      have hk0 : (0 : Int) ≤ (k : Int) := by omega
      by_cases hlt : k < L.length
      · skip
        have hki : (k : Int) < (L.length : Int) := by omega
        obtain ⟨g, hsa, hg, hc⟩ : ∃ g, sa = some ⟨g, 0, none⟩ ∧ g < w1.heap.size ∧ ∀ k, k < L.length → w1.cell? ⟨g, k, none⟩ = some (.int .i64 (L.getD k 0)) := by
          rcases HIN.out w1 (Below.refl _ _) with h | h
          · subst h; simp at hlt
          · exact h
        subst hsa
        have hcell : Hid (∀ Y, Below w1.heap.size w1 Y → Y.cell? ⟨g, k, none⟩ = some (.int .i64 (L.getD k 0))) := fun Y hY => (hY.cell (p := ⟨g, k, none⟩) hg).trans (hc k hlt)
        obtain ⟨x1, x2⟩ := hrg k hlt
        have HX0 := Lib.hid (fun Y => HF0.out (L.getD k 0) Y x1 x2)
        have HX1 := Lib.hid (fun Y => HF1.out (L.getD k 0) Y x1 x2)
        obtain ⟨bk, hbk⟩ : ∃ bk, ((k : Int) == 0) = bk := ⟨_, rfl⟩
        have hs0 := hl_step F0 L hbk
        have hs1 := hl_step F1 L hbk
        generalize L.getD k 0 = x at *
        generalize hl F0 L k = m0 at *
        generalize hl F1 L k = m1 at *
        generalize F0 x = q0 at *
        generalize F1 x = q1 at *
        obtain ⟨m00, m01⟩ := m0
        obtain ⟨m10, m11⟩ := m1
        obtain ⟨q00, q01⟩ := q0
        obtain ⟨q10, q11⟩ := q1
        dsimp only at hs0 hs1 sA sB HX0 HX1
        have HS0 := Lib.hid hs0
        have HS1' := Lib.hid hs1
        have HBK := Lib.hid hbk
        clear hs0 hs1 hbk hc
        have hbo : Hid (∀ Y, Below w1.heap.size w1 Y → Y.cell? ⟨w.heap.size, 0, none⟩ = some (.int .i64 p.lo) ∧ Y.cell? ⟨w.heap.size, 1, none⟩ = some (.int .i64 p.hi) ∧ Y.cell? ⟨w.heap.size, 2, none⟩ = some (.slice p.a p.n p.cap)) := fun Y hY => by
          obtain ⟨z0, z1, z2⟩ := HQ.out.grown (BT hB hY)
          exact ⟨z0, z1, z2⟩
        have hI : Hid (∀ Y, Below wo.heap.size wo Y → Y.cell? ⟨w1.heap.size, 0, none⟩ = some (.int .i64 m00) ∧ Y.cell? ⟨w1.heap.size, 1, none⟩ = some (.int .i64 m01) ∧ Y.cell? ⟨w.heap.size, 0, none⟩ = some (.int .i64 p.lo) ∧ Y.cell? ⟨w.heap.size, 1, none⟩ = some (.int .i64 p.hi) ∧ Y.cell? ⟨w.heap.size, 2, none⟩ = some (.slice p.a p.n p.cap) ∧ Y.cell? ⟨g, k, none⟩ = some (.int .i64 x)) := fun Y hY => by
          obtain ⟨z0, z1, z2⟩ := hbo.out Y (BT hx hY)
          exact ⟨(sA.grown hY).c0, (sA.grown hY).c1, z0, z1, z2, hcell.out Y (BT hx hY)⟩
        have hb0 : Below wo.heap.size wo wo.drew := Below.drew (Below.refl _ _)
        go_upto_region 8 with fail
        refine wp_region_seq [(0, true), (1, true), (2, true), (4, true), (5, true), (6, true), (7, true), (9, true), (10, true), (3, false), (8, false), (11, false), (12, false)] (fun Y => Y.cell? ⟨w1.heap.size, 0, none⟩ = some (.int .i64 m00) ∧ Y.cell? ⟨w1.heap.size, 1, none⟩ = some (.int .i64 m01) ∧ Y.cell? ⟨w.heap.size, 0, none⟩ = some (.int .i64 p.lo) ∧ Y.cell? ⟨w.heap.size, 1, none⟩ = some (.int .i64 p.hi) ∧ Y.cell? ⟨w.heap.size, 2, none⟩ = some (.slice p.a p.n p.cap) ∧ Y.cell? ⟨g, k, none⟩ = some (.int .i64 x)) (by kernel_rfl) (by kernel_rfl) (fun _ _ d _ _ h => by cases d <;> exact h) (hI.out _ hb0) ?_
        refine seq_free (fun F HF Q HQ => ?_)
        generalize wo.drew = X0 at *
        repeat (first | (refine seq_read rfl (by rfl) _ (fun w' hS => by (try dsimp only at hS); go_simp; (try with_reducible rfl)) ?_; (try simp only [Act.put, List.setIfInBounds_toArray, List.set_cons_zero, List.set_cons_succ])) | (refine seq_skip rfl (by rfl) ?_; (try simp only [Act.put, List.setIfInBounds_toArray, List.set_cons_zero, List.set_cons_succ])))
        refine seq_do rfl (by rfl) (fun K hK => ?_)
        go_simp
        refine (HKN.out X0 (BT HB0.out (BT hB (BT hx hb0)))).mono ?_
        rintro e X1 ⟨rfl, hy⟩
        have hb1 := BT hb0 hy
        refine hK _ _ (hI.out _ hb1) ?_
        clear hK K hy
        (try simp only [Act.put, List.setIfInBounds_toArray, List.set_cons_zero, List.set_cons_succ])
        repeat (first | (refine seq_read rfl (by rfl) _ (fun w' hS => by (try dsimp only at hS); go_simp; (try with_reducible rfl)) ?_; (try simp only [Act.put, List.setIfInBounds_toArray, List.set_cons_zero, List.set_cons_succ])) | (refine seq_skip rfl (by rfl) ?_; (try simp only [Act.put, List.setIfInBounds_toArray, List.set_cons_zero, List.set_cons_succ])))
        refine seq_do rfl (by rfl) (fun K hK => ?_)
        go_simp
        refine (HX0.out X1 (BT HB0.out (BT hB (BT hx hb1)))).mono ?_
        rintro e X2 ⟨rfl, hy⟩
        have hb2 := BT hb1 hy
        refine hK _ _ (hI.out _ hb2) ?_
        clear hK K hy
        (try simp only [Act.put, List.setIfInBounds_toArray, List.set_cons_zero, List.set_cons_succ])
        repeat (first | (refine seq_read rfl (by rfl) _ (fun w' hS => by (try dsimp only at hS); go_simp; (try with_reducible rfl)) ?_; (try simp only [Act.put, List.setIfInBounds_toArray, List.set_cons_zero, List.set_cons_succ])) | (refine seq_skip rfl (by rfl) ?_; (try simp only [Act.put, List.setIfInBounds_toArray, List.set_cons_zero, List.set_cons_succ])))
        rw [HBK.out]
        refine seq_do rfl (by rfl) (fun K hK => ?_)
        go_simp
        refine (hull_any m00 m01 q00 q01 bk X2).mono ?_
        rintro e X3 ⟨rfl, hy⟩
        have hb3 := BT hb2 hy
        refine hK _ _ (hI.out _ hb3) ?_
        clear hK K hy
        (try simp only [Act.put, List.setIfInBounds_toArray, List.set_cons_zero, List.set_cons_succ])
        repeat (first | (refine seq_read rfl (by rfl) _ (fun w' hS => by (try dsimp only at hS); go_simp; (try with_reducible rfl)) ?_; (try simp only [Act.put, List.setIfInBounds_toArray, List.set_cons_zero, List.set_cons_succ])) | (refine seq_skip rfl (by rfl) ?_; (try simp only [Act.put, List.setIfInBounds_toArray, List.set_cons_zero, List.set_cons_succ])))
        obtain ⟨n0, hn0⟩ : ∃ n0, (if bk then q00 else min m00 q00) = n0 := ⟨_, rfl⟩
        obtain ⟨n1, hn1⟩ : ∃ n1, (if bk then q01 else max m01 q01) = n1 := ⟨_, rfl⟩
        rw [hn0, hn1]
        have hn0a := Lib.hid hn0
        have hn1a := Lib.hid hn1
        clear hn0 hn1
        have hxx := BC (BC (BT hx hb3) (w1.heap.size) 0 (by omega) (.int .i64 n0)) (w1.heap.size) 1 (by omega) (.int .i64 n1)
        have sA2 := sA.grown hb3
        have sB2 := sB.grown hb3
        obtain ⟨z0, z1, z2, z3⟩ := id sA2
        refine seq_last rfl (by rfl) (by kernel_rfl) (fun K hK => ?_)
        go_simp
        refine hK _ _ ?_
        clear hK K z0 z1 z2 z3
        (try simp only [Act.put, List.setIfInBounds_toArray, List.set_cons_zero, List.set_cons_succ])
        refine HF _ _ ?_
        first | show Exit.inBlock _ _ Exit.normal _ _ | show Exit.then _ _ Exit.normal _ _ | skip
        replace sB2 := (sB2.put (B := w1.heap.size) (by omega) 0 (.int .i64 n0)).put (B := w1.heap.size) (by omega) 1 (.int .i64 n1)
        replace sA2 := sA2.set n0 n1
        clear sA sB hx hI hb0 hb1 hb2 hb3 F HF Q HQ
        have sA := sA2
        have sB := sB2
        have hx := hxx
        clear sA2 sB2 hxx
        generalize (X3.setCell ⟨w1.heap.size, 0, none⟩ (.int .i64 n0)).setCell ⟨w1.heap.size, 1, none⟩ (.int .i64 n1) = Va at *
        generalize n0 = n0av at *
        generalize n1 = n1av at *
        have hI : Hid (∀ Y, Below Va.heap.size Va Y → Y.cell? ⟨w1.heap.size + 1, 0, none⟩ = some (.int .i64 m10) ∧ Y.cell? ⟨w1.heap.size + 1, 1, none⟩ = some (.int .i64 m11) ∧ Y.cell? ⟨w.heap.size, 0, none⟩ = some (.int .i64 p.lo) ∧ Y.cell? ⟨w.heap.size, 1, none⟩ = some (.int .i64 p.hi) ∧ Y.cell? ⟨w.heap.size, 2, none⟩ = some (.slice p.a p.n p.cap) ∧ Y.cell? ⟨g, k, none⟩ = some (.int .i64 x)) := fun Y hY => by
          obtain ⟨z0, z1, z2⟩ := hbo.out Y (BT hx hY)
          exact ⟨(sB.grown hY).c0, (sB.grown hY).c1, z0, z1, z2, hcell.out Y (BT hx hY)⟩
        have hb0 : Below Va.heap.size Va Va.drew := Below.drew (Below.refl _ _)
        go_upto_region 9 with fail
        refine wp_region_seq [(0, true), (1, true), (2, true), (4, true), (5, true), (6, true), (7, true), (9, true), (10, true), (3, false), (8, false), (11, false), (12, false)] (fun Y => Y.cell? ⟨w1.heap.size + 1, 0, none⟩ = some (.int .i64 m10) ∧ Y.cell? ⟨w1.heap.size + 1, 1, none⟩ = some (.int .i64 m11) ∧ Y.cell? ⟨w.heap.size, 0, none⟩ = some (.int .i64 p.lo) ∧ Y.cell? ⟨w.heap.size, 1, none⟩ = some (.int .i64 p.hi) ∧ Y.cell? ⟨w.heap.size, 2, none⟩ = some (.slice p.a p.n p.cap) ∧ Y.cell? ⟨g, k, none⟩ = some (.int .i64 x)) (by kernel_rfl) (by kernel_rfl) (fun _ _ d _ _ h => by cases d <;> exact h) (hI.out _ hb0) ?_
        refine seq_free (fun F HF Q HQ => ?_)
        generalize Va.drew = X0 at *
        repeat (first | (refine seq_read rfl (by rfl) _ (fun w' hS => by (try dsimp only at hS); go_simp; (try with_reducible rfl)) ?_; (try simp only [Act.put, List.setIfInBounds_toArray, List.set_cons_zero, List.set_cons_succ])) | (refine seq_skip rfl (by rfl) ?_; (try simp only [Act.put, List.setIfInBounds_toArray, List.set_cons_zero, List.set_cons_succ])))
        refine seq_do rfl (by rfl) (fun K hK => ?_)
        go_simp
        refine (HKN.out X0 (BT HB0.out (BT hB (BT hx hb0)))).mono ?_
        rintro e X1 ⟨rfl, hy⟩
        have hb1 := BT hb0 hy
        refine hK _ _ (hI.out _ hb1) ?_
        clear hK K hy
        (try simp only [Act.put, List.setIfInBounds_toArray, List.set_cons_zero, List.set_cons_succ])
        repeat (first | (refine seq_read rfl (by rfl) _ (fun w' hS => by (try dsimp only at hS); go_simp; (try with_reducible rfl)) ?_; (try simp only [Act.put, List.setIfInBounds_toArray, List.set_cons_zero, List.set_cons_succ])) | (refine seq_skip rfl (by rfl) ?_; (try simp only [Act.put, List.setIfInBounds_toArray, List.set_cons_zero, List.set_cons_succ])))
        refine seq_do rfl (by rfl) (fun K hK => ?_)
        go_simp
        refine (HX1.out X1 (BT HB0.out (BT hB (BT hx hb1)))).mono ?_
        rintro e X2 ⟨rfl, hy⟩
        have hb2 := BT hb1 hy
        refine hK _ _ (hI.out _ hb2) ?_
        clear hK K hy
        (try simp only [Act.put, List.setIfInBounds_toArray, List.set_cons_zero, List.set_cons_succ])
        repeat (first | (refine seq_read rfl (by rfl) _ (fun w' hS => by (try dsimp only at hS); go_simp; (try with_reducible rfl)) ?_; (try simp only [Act.put, List.setIfInBounds_toArray, List.set_cons_zero, List.set_cons_succ])) | (refine seq_skip rfl (by rfl) ?_; (try simp only [Act.put, List.setIfInBounds_toArray, List.set_cons_zero, List.set_cons_succ])))
        rw [HBK.out]
        refine seq_do rfl (by rfl) (fun K hK => ?_)
        go_simp
        refine (hull_any m10 m11 q10 q11 bk X2).mono ?_
        rintro e X3 ⟨rfl, hy⟩
        have hb3 := BT hb2 hy
        refine hK _ _ (hI.out _ hb3) ?_
        clear hK K hy
        (try simp only [Act.put, List.setIfInBounds_toArray, List.set_cons_zero, List.set_cons_succ])
        repeat (first | (refine seq_read rfl (by rfl) _ (fun w' hS => by (try dsimp only at hS); go_simp; (try with_reducible rfl)) ?_; (try simp only [Act.put, List.setIfInBounds_toArray, List.set_cons_zero, List.set_cons_succ])) | (refine seq_skip rfl (by rfl) ?_; (try simp only [Act.put, List.setIfInBounds_toArray, List.set_cons_zero, List.set_cons_succ])))
        obtain ⟨n0, hn0⟩ : ∃ n0, (if bk then q10 else min m10 q10) = n0 := ⟨_, rfl⟩
        obtain ⟨n1, hn1⟩ : ∃ n1, (if bk then q11 else max m11 q11) = n1 := ⟨_, rfl⟩
        rw [hn0, hn1]
        have hn0b := Lib.hid hn0
        have hn1b := Lib.hid hn1
        clear hn0 hn1
        have hxx := BC (BC (BT hx hb3) (w1.heap.size + 1) 0 (by omega) (.int .i64 n0)) (w1.heap.size + 1) 1 (by omega) (.int .i64 n1)
        have sA2 := sA.grown hb3
        have sB2 := sB.grown hb3
        obtain ⟨z0, z1, z2, z3⟩ := id sB2
        refine seq_last rfl (by rfl) (by kernel_rfl) (fun K hK => ?_)
        go_simp
        refine hK _ _ ?_
        clear hK K z0 z1 z2 z3
        (try simp only [Act.put, List.setIfInBounds_toArray, List.set_cons_zero, List.set_cons_succ])
        refine HF _ _ ?_
        first | show Exit.inBlock _ _ Exit.normal _ _ | show Exit.then _ _ Exit.normal _ _ | skip
        replace sA2 := (sA2.put (B := w1.heap.size + 1) (by omega) 0 (.int .i64 n0)).put (B := w1.heap.size + 1) (by omega) 1 (.int .i64 n1)
        replace sB2 := sB2.set n0 n1
        clear sA sB hx hI hb0 hb1 hb2 hb3 F HF Q HQ
        have sA := sA2
        have sB := sB2
        have hx := hxx
        clear sA2 sB2 hxx
        generalize (X3.setCell ⟨w1.heap.size + 1, 0, none⟩ (.int .i64 n0)).setCell ⟨w1.heap.size + 1, 1, none⟩ (.int .i64 n1) = Vb at *
        generalize n0 = n0bv at *
        generalize n1 = n1bv at *
        go_wp2_with fail
        go_roundw
        case rel => exact ⟨k + 1, by omega, by go_num, by rw [HS0.out]; dsimp only; rw [hn0a.out, hn1a.out]; exact sA, by rw [HS1'.out]; dsimp only; rw [hn0b.out, hn1b.out]; exact sB, hx⟩
        case measure => simp [intOf]; omega
      · obtain rfl : k = L.length := by omega
        clear hrg HF0 HF1 HOO
        generalize hl F0 L L.length = m0 at *
        generalize hl F1 L L.length = m1 at *
        obtain ⟨m00, m01⟩ := m0
        obtain ⟨m10, m11⟩ := m1
        dsimp only at sA sB ⊢
        have hs1 := HS1.out.below (BT hB hx) hl1
        have hs2 := HS2.out.below (BT hB hx) hl0
        go_upto_region 10 with fail
        refine wp_region_seq [(0, true), (1, true), (2, false), (3, false), (4, true)] (fun Y => Y.cell? ⟨w1.heap.size, 0, none⟩ = some (.int .i64 m00) ∧ Y.cell? ⟨w1.heap.size, 1, none⟩ = some (.int .i64 m01) ∧ Y.cell? ⟨w1.heap.size + 1, 0, none⟩ = some (.int .i64 m10) ∧ Y.cell? ⟨w1.heap.size + 1, 1, none⟩ = some (.int .i64 m11)) (by kernel_rfl) (by kernel_rfl) (fun _ _ d _ _ h => by cases d <;> exact h) ⟨by simpa using sA.c0, by simpa using sA.c1, by simpa using sB.c0, by simpa using sB.c1⟩ ?_
        have hbd : Below wo.heap.size wo wo.drew := Below.drew (Below.refl _ _)
        replace sA := sA.grown hbd
        replace sB := sB.grown hbd
        replace hs1 := hs1.drew
        replace hs2 := hs2.drew
        have hfin := BC (BC (BC (BC (BT HB0.out (BT hB (BT hx hbd))) (w.heap.size + 1) 0 (by omega) (.int .i64 m00)) (w.heap.size + 1) 1 (by omega) (.int .i64 m01)) (w.heap.size + 1 + 1) 0 (by omega) (.int .i64 m10)) (w.heap.size + 1 + 1) 1 (by omega) (.int .i64 m11)
        clear hx hbd
        generalize wo.drew = X0 at *
        refine seq_free (fun F HF Q HQ => ?_)
        repeat (first | (refine seq_read rfl (by rfl) _ (fun w' hS => by (try dsimp only at hS); go_simp; (try with_reducible rfl)) ?_; (try simp only [Act.put, List.setIfInBounds_toArray, List.set_cons_zero, List.set_cons_succ])) | (refine seq_skip rfl (by rfl) ?_; (try simp only [Act.put, List.setIfInBounds_toArray, List.set_cons_zero, List.set_cons_succ])))
        refine seq_do rfl (by rfl) (fun K hK => ?_)
        obtain ⟨u0, r0, f0⟩ := hs1.get 0 (by omega)
        obtain ⟨u1, r1, f1⟩ := hs1.get 1 (by omega)
        obtain ⟨v0, t0, g0⟩ := hs2.get 0 (by omega)
        obtain ⟨v1, t1, g1⟩ := hs2.get 1 (by omega)
        replace sA := (sA.put (B := w.heap.size + 1) (by omega) 0 (.int .i64 m00)).put (B := w.heap.size + 1) (by omega) 1 (.int .i64 m01)
        replace sB := (sB.put (B := w.heap.size + 1) (by omega) 0 (.int .i64 m00)).put (B := w.heap.size + 1) (by omega) 1 (.int .i64 m01)
        go_simp
        refine hK _ _ ⟨sA.c0, sA.c1, sB.c0, sB.c1⟩ ?_
        clear hK K
        (try simp only [Act.put, List.setIfInBounds_toArray, List.set_cons_zero, List.set_cons_succ])
        repeat (first | (refine seq_read rfl (by rfl) _ (fun w' hS => by (try dsimp only at hS); go_simp; (try with_reducible rfl)) ?_; (try simp only [Act.put, List.setIfInBounds_toArray, List.set_cons_zero, List.set_cons_succ])) | (refine seq_skip rfl (by rfl) ?_; (try simp only [Act.put, List.setIfInBounds_toArray, List.set_cons_zero, List.set_cons_succ])))
        replace sA := (sA.put (B := w.heap.size + 1 + 1) (by omega) 0 (.int .i64 m10)).put (B := w.heap.size + 1 + 1) (by omega) 1 (.int .i64 m11)
        replace sB := (sB.put (B := w.heap.size + 1 + 1) (by omega) 0 (.int .i64 m10)).put (B := w.heap.size + 1 + 1) (by omega) 1 (.int .i64 m11)
        refine seq_do rfl (by rfl) (fun K hK => ?_)
        go_simp
        refine hK _ _ ⟨sA.c0, sA.c1, sB.c0, sB.c1⟩ ?_
        clear hK K sA sB
        (try simp only [Act.put, List.setIfInBounds_toArray, List.set_cons_zero, List.set_cons_succ])
        repeat (first | (refine seq_read rfl (by rfl) _ (fun w' hS => by (try dsimp only at hS); go_simp; (try with_reducible rfl)) ?_; (try simp only [Act.put, List.setIfInBounds_toArray, List.set_cons_zero, List.set_cons_succ])) | (refine seq_skip rfl (by rfl) ?_; (try simp only [Act.put, List.setIfInBounds_toArray, List.set_cons_zero, List.set_cons_succ])))
        apply seq_end
        refine HF _ _ ?_
        first | show Exit.inBlock _ _ Exit.normal _ _ | show Exit.then _ _ Exit.normal _ _ | skip
        go_wp2_with fail
        exact bodyPost_ret (v := .tuple #[.agg #[.int .i64 m00, .int .i64 m01], .agg #[.int .i64 m10, .int .i64 m11], .int .i64 0]) (by simp [results, Tryz.results11, go_sem, r0, r1, t0, t1]) rfl ⟨rfl, hfin⟩
end Go.Proofs.YtdkegkacpdkjgaaGreat

namespace Go.Proofs.YtdkegkacpdkjgaaGreat
open Go.RowKit

def starRR (p : Pl) (ss : List St) (a : Nat) (n : Int) : (Int × Int) × (Int × Int) × Int := tupR (doubtR p ss a (decide (0 ≤ n) && decide (n ≤ (p.n : Int) - 1))) (plcs ss a p.n n.toNat false) (plcs ss a p.n n.toNat true)
set_option maxRecDepth 100000 in
set_option maxHeartbeats 8000000 in
theorem starRR_any (p : Pl) (ss : List St) (a : Nat) (n : Int) (w : World) (hm : PlAt p ss w) (hk : plB p ss = true → KnO p ss a) (hbig : p.n ≤ 1000000000) :
    Calls Tryz.prog 13 #[p.val, .int .i64 n] w (Ret (.tuple #[.agg #[.int .i64 ((starRR p ss a n).1).1, .int .i64 ((starRR p ss a n).1).2], .agg #[.int .i64 ((starRR p ss a n).2.1).1, .int .i64 ((starRR p ss a n).2.1).2], .int .i64 (starRR p ss a n).2.2]) w) := by
  have HO : Hid (∀ b Y, Below w.heap.size w Y → Calls Tryz.prog 45 #[.agg #[.int .i64 p.lo, .int .i64 p.hi, .slice p.a p.n p.cap], .bool b] Y (OpO (doubtR p ss a b) Y)) := fun b Y hY => doubt_any p ss a b Y (hm.below hY (Nat.le_refl _)) hk
  obtain ⟨W0, hW0⟩ : ∃ X, ((w.alloc (.cells #[.int .i64 p.lo, .int .i64 p.hi, .slice p.a p.n p.cap] 26)).alloc (.cells #[.int .i64 0, .int .i64 0] 23)).alloc (.cells #[.int .i64 0, .int .i64 0] 23) = X := ⟨_, rfl⟩
  have hB0 : Below w.heap.size w W0 := by rw [← hW0]; exact BA (BA (newB _ _) _) _
  have hQ : BoxP W0 w.heap.size p := by rw [← hW0]; exact ((boxP_new w p _).grown (newB _ _)).grown (newB _ _)
  have hR1 : Slots (w.heap.size + 1) 2 W0 := by
    rw [← hW0]
    have h := slots_new2r (w.alloc (.cells #[.int .i64 p.lo, .int .i64 p.hi, .slice p.a p.n p.cap] 26)) 23
    rw [World.size_alloc] at h
    exact h.below (newB _ _) (by simp)
  have hR2 : Slots (w.heap.size + 1 + 1) 2 W0 := by
    rw [← hW0]
    have h := slots_new2r ((w.alloc (.cells #[.int .i64 p.lo, .int .i64 p.hi, .slice p.a p.n p.cap] 26)).alloc (.cells #[.int .i64 0, .int .i64 0] 23)) 23
    rw [World.size_alloc, World.size_alloc] at h
    exact h
  have hl0 := hR2.lt2r
  have hl1 : w.heap.size + 1 < W0.heap.size := by omega
  have HB0 := Lib.hid hB0
  have HS1 := Lib.hid hR1
  have HS2 := Lib.hid hR2
  have HQ := Lib.hid hQ
  obtain ⟨b0, b1, b2⟩ := id hQ
  have HK := Lib.hid hk
  have HM := Lib.hid hm
  clear hQ hm hk hR1 hR2
  unfold starRR Pl.val
  obtain ⟨bv, hbv⟩ : ∃ bv, (decide (0 ≤ n) && decide (n ≤ (p.n : Int) - 1)) = bv := ⟨_, rfl⟩
  rw [hbv]
  have HIS : Hid (∀ Y, Calls Tryz.prog 53 #[.agg #[.int .i64 p.lo, .int .i64 p.hi, .slice p.a p.n p.cap], .int .i64 n] Y (Ret (.bool bv) Y)) := fun Y => by
    have h := isStar_any p n Y hbig
    rw [hbv] at h; exact h
  cases ho : doubtR p ss a bv with
  | error c =>
    have hc := doubtR_err ho
    have hc2 : (c == 0) = false := by simpa using hc
    have hc3 : (c != 0) = true := by simpa using hc
    have HOO : Hid (∀ Y, Below w.heap.size w Y → Calls Tryz.prog 45 #[.agg #[.int .i64 p.lo, .int .i64 p.hi, .slice p.a p.n p.cap], .bool bv] Y (OpO (.error c) Y)) := fun Y hY => by
      have h := HO.out bv Y hY
      rw [ho] at h; exact h
    clear ho HO HK HM
    unfold tupR
    dsimp only
    go_enter Tryz.func13, Tryz.ntmps13
    have hI : Hid (∀ Y, Below W0.heap.size W0 Y → Y.cell? ⟨w.heap.size, 0, none⟩ = some (.int .i64 p.lo) ∧ Y.cell? ⟨w.heap.size, 1, none⟩ = some (.int .i64 p.hi) ∧ Y.cell? ⟨w.heap.size, 2, none⟩ = some (.slice p.a p.n p.cap)) := fun Y hY => by
      obtain ⟨z0, z1, z2⟩ := HQ.out.grown hY
      exact ⟨z0, z1, z2⟩
    go_upto_region 1 with fail
    clear hW0 b0 b1 b2
    have hb0 : Below W0.heap.size W0 W0.drew := Below.drew (Below.refl _ _)
    refine wp_region_seq [(0, true), (1, true), (2, true), (3, false), (4, false), (5, true), (6, true), (7, true), (8, true), (9, true)] (fun Y => Y.cell? ⟨w.heap.size, 0, none⟩ = some (.int .i64 p.lo) ∧ Y.cell? ⟨w.heap.size, 1, none⟩ = some (.int .i64 p.hi) ∧ Y.cell? ⟨w.heap.size, 2, none⟩ = some (.slice p.a p.n p.cap)) (by kernel_rfl) (by kernel_rfl) (fun _ _ d _ _ h => by cases d <;> exact h) (hI.out _ hb0) ?_
    refine seq_free (fun F HF Q HQ => ?_)
    generalize W0.drew = X0 at *
    repeat (first | (refine seq_read rfl (by rfl) _ (fun w' hS => by (try dsimp only at hS); go_simp; (try with_reducible rfl)) ?_; (try simp only [Act.put, List.setIfInBounds_toArray, List.set_cons_zero, List.set_cons_succ])) | (refine seq_skip rfl (by rfl) ?_; (try simp only [Act.put, List.setIfInBounds_toArray, List.set_cons_zero, List.set_cons_succ])))
    refine seq_do rfl (by rfl) (fun K hK => ?_)
    go_simp
    refine (HIS.out X0).mono ?_
    rintro e X1 ⟨rfl, hx⟩
    have hb1 := BT hb0 hx
    refine hK _ _ (hI.out _ hb1) ?_
    clear hK K hx
    (try simp only [Act.put, List.setIfInBounds_toArray, List.set_cons_zero, List.set_cons_succ])
    repeat (first | (refine seq_read rfl (by rfl) _ (fun w' hS => by (try dsimp only at hS); go_simp; (try with_reducible rfl)) ?_; (try simp only [Act.put, List.setIfInBounds_toArray, List.set_cons_zero, List.set_cons_succ])) | (refine seq_skip rfl (by rfl) ?_; (try simp only [Act.put, List.setIfInBounds_toArray, List.set_cons_zero, List.set_cons_succ])))
    refine seq_do rfl (by rfl) (fun K hK => ?_)
    go_simp
    refine (HOO.out X1 (BT HB0.out hb1)).mono ?_
    rintro e w1 ⟨rfl, hx⟩
    have hb2 := BT hb1 hx
    refine hK _ _ (hI.out _ hb2) ?_
    clear hK K hx
    (try simp only [Act.put, List.setIfInBounds_toArray, List.set_cons_zero, List.set_cons_succ])
    repeat (first | (refine seq_read rfl (by rfl) _ (fun w' hS => by (try dsimp only at hS); go_simp; (try with_reducible rfl)) ?_; (try simp only [Act.put, List.setIfInBounds_toArray, List.set_cons_zero, List.set_cons_succ])) | (refine seq_skip rfl (by rfl) ?_; (try simp only [Act.put, List.setIfInBounds_toArray, List.set_cons_zero, List.set_cons_succ])))
    apply seq_end
    refine HF _ _ ?_
    first | show Exit.inBlock _ _ Exit.normal _ _ | show Exit.then _ _ Exit.normal _ _ | skip
    have hB := hb2
    clear hI hb0 hb1 hb2 F HF Q HQ
    have hs1 := HS1.out.below hB hl1
    have hs2 := HS2.out.below hB hl0
    obtain ⟨u0, r0, f0⟩ := hs1.get 0 (by omega)
    obtain ⟨u1, r1, f1⟩ := hs1.get 1 (by omega)
    obtain ⟨v0, t0, g0⟩ := hs2.get 0 (by omega)
    obtain ⟨v1, t1, g1⟩ := hs2.get 1 (by omega)
    have hfin := BC (BC (BC (BC (BT HB0.out hB) (w.heap.size + 1) 0 (by omega) (.int .i64 0)) (w.heap.size + 1) 1 (by omega) (.int .i64 0)) (w.heap.size + 1 + 1) 0 (by omega) (.int .i64 0)) (w.heap.size + 1 + 1) 1 (by omega) (.int .i64 0)
    clear hB hB0 hs1 hs2
    go_wp2_with fail
    exact bodyPost_ret (v := .tuple #[.agg #[.int .i64 0, .int .i64 0], .agg #[.int .i64 0, .int .i64 0], .int .i64 c]) (by simp [results, Tryz.results13, go_sem, r0, r1, t0, t1]) rfl ⟨rfl, hfin⟩
  | ok L =>
    obtain ⟨hoo, ha0⟩ := doubtR_ok ho
    obtain ⟨hv, hbt, hLs, hne⟩ := openR_ok hoo
    have K := HK.out hv
    have hrg : ∀ k, k < L.length → 1 ≤ L.getD k 0 ∧ L.getD k 0 ≤ 1000 := fun k hk => by
      have h := scL_rng p ss a (k := k) (by rw [← hLs]; exact hk)
      rw [← hLs] at h
      have k0 := K.lo
      have k1 := K.hi
      omega
    have hl2 : L.length ≤ 1000 := by
      have k0 := K.lo
      have k1 := K.hi
      have := scTo_len (fun sc => crB ss sc a.testBit p.n) p.lo (p.hi + 1 - p.lo).toNat
      rw [hLs]; unfold scL; omega
    have HOO : Hid (∀ Y, Below w.heap.size w Y → Calls Tryz.prog 45 #[.agg #[.int .i64 p.lo, .int .i64 p.hi, .slice p.a p.n p.cap], .bool bv] Y (OpO (.ok L) Y)) := fun Y hY => by
      have h := HO.out bv Y hY
      rw [ho] at h; exact h
    rw [hbt] at hbv
    obtain ⟨n', rfl⟩ : ∃ n' : Nat, n = n' := ⟨n.toNat, by simp at hbv; omega⟩
    have hn1 : n' < p.n := by simp at hbv; omega
    have hn0 : (0 : Int) ≤ (n' : Int) := by omega
    rw [show ((n' : Nat) : Int).toNat = n' from by omega]
    have HF0 : Hid (∀ sc Y, 1 ≤ sc → sc ≤ 1000 → Below w.heap.size w Y → Calls Tryz.prog 54 #[.agg #[.int .i64 p.lo, .int .i64 p.hi, .slice p.a p.n p.cap], .int .i64 (n' : Int), .int .i64 sc, .bool false] Y (Ret (.agg #[.int .i64 (plcs ss a p.n n' false sc).1, .int .i64 (plcs ss a p.n n' false sc).2]) Y)) := fun sc Y h0 h1 hY => places_any p ss a n' sc false Y (HM.out.below hY (Nat.le_refl _)) K hn1 h0 h1
    have HF1 : Hid (∀ sc Y, 1 ≤ sc → sc ≤ 1000 → Below w.heap.size w Y → Calls Tryz.prog 54 #[.agg #[.int .i64 p.lo, .int .i64 p.hi, .slice p.a p.n p.cap], .int .i64 (n' : Int), .int .i64 sc, .bool true] Y (Ret (.agg #[.int .i64 (plcs ss a p.n n' true sc).1, .int .i64 (plcs ss a p.n n' true sc).2]) Y)) := fun sc Y h0 h1 hY => places_any p ss a n' sc true Y (HM.out.below hY (Nat.le_refl _)) K hn1 h0 h1
    clear ho hoo ha0 hv hbt hLs hne K HO HK HM
    unfold tupR
    dsimp only
    generalize plcs ss a p.n n' false = F0 at *
    generalize plcs ss a p.n n' true = F1 at *
    go_enter Tryz.func13, Tryz.ntmps13
    have hI : Hid (∀ Y, Below W0.heap.size W0 Y → Y.cell? ⟨w.heap.size, 0, none⟩ = some (.int .i64 p.lo) ∧ Y.cell? ⟨w.heap.size, 1, none⟩ = some (.int .i64 p.hi) ∧ Y.cell? ⟨w.heap.size, 2, none⟩ = some (.slice p.a p.n p.cap)) := fun Y hY => by
      obtain ⟨z0, z1, z2⟩ := HQ.out.grown hY
      exact ⟨z0, z1, z2⟩
    go_upto_region 1 with fail
    clear hW0 b0 b1 b2
    have hb0 : Below W0.heap.size W0 W0.drew := Below.drew (Below.refl _ _)
    refine wp_region_seq [(0, true), (1, true), (2, true), (3, false), (4, false), (5, true), (6, true), (7, true), (8, true), (9, true)] (fun Y => Y.cell? ⟨w.heap.size, 0, none⟩ = some (.int .i64 p.lo) ∧ Y.cell? ⟨w.heap.size, 1, none⟩ = some (.int .i64 p.hi) ∧ Y.cell? ⟨w.heap.size, 2, none⟩ = some (.slice p.a p.n p.cap)) (by kernel_rfl) (by kernel_rfl) (fun _ _ d _ _ h => by cases d <;> exact h) (hI.out _ hb0) ?_
    refine seq_free (fun F HF Q HQ => ?_)
    generalize W0.drew = X0 at *
    repeat (first | (refine seq_read rfl (by rfl) _ (fun w' hS => by (try dsimp only at hS); go_simp; (try with_reducible rfl)) ?_; (try simp only [Act.put, List.setIfInBounds_toArray, List.set_cons_zero, List.set_cons_succ])) | (refine seq_skip rfl (by rfl) ?_; (try simp only [Act.put, List.setIfInBounds_toArray, List.set_cons_zero, List.set_cons_succ])))
    refine seq_do rfl (by rfl) (fun K hK => ?_)
    go_simp
    refine (HIS.out X0).mono ?_
    rintro e X1 ⟨rfl, hx⟩
    have hb1 := BT hb0 hx
    refine hK _ _ (hI.out _ hb1) ?_
    clear hK K hx
    (try simp only [Act.put, List.setIfInBounds_toArray, List.set_cons_zero, List.set_cons_succ])
    repeat (first | (refine seq_read rfl (by rfl) _ (fun w' hS => by (try dsimp only at hS); go_simp; (try with_reducible rfl)) ?_; (try simp only [Act.put, List.setIfInBounds_toArray, List.set_cons_zero, List.set_cons_succ])) | (refine seq_skip rfl (by rfl) ?_; (try simp only [Act.put, List.setIfInBounds_toArray, List.set_cons_zero, List.set_cons_succ])))
    refine seq_do rfl (by rfl) (fun K hK => ?_)
    go_simp
    refine (HOO.out X1 (BT HB0.out hb1)).mono ?_
    rintro e w1 ⟨sa, cap, rfl, hin, hx⟩
    have hB := BT hb1 hx
    refine hK _ _ (hI.out _ hB) ?_
    clear hK K hx
    (try simp only [Act.put, List.setIfInBounds_toArray, List.set_cons_zero, List.set_cons_succ])
    repeat (first | (refine seq_read rfl (by rfl) _ (fun w' hS => by (try dsimp only at hS); go_simp; (try with_reducible rfl)) ?_; (try simp only [Act.put, List.setIfInBounds_toArray, List.set_cons_zero, List.set_cons_succ])) | (refine seq_skip rfl (by rfl) ?_; (try simp only [Act.put, List.setIfInBounds_toArray, List.set_cons_zero, List.set_cons_succ])))
    apply seq_end
    refine HF _ _ ?_
    first | show Exit.inBlock _ _ Exit.normal _ _ | show Exit.then _ _ Exit.normal _ _ | skip
    clear hI hb0 hb1 F HF Q HQ
    have hn8 : W0.heap.size ≤ w1.heap.size := hB.size
    obtain ⟨W1, hW1⟩ : ∃ X, (w1.alloc (.cells #[.int .i64 0, .int .i64 0] 23)).alloc (.cells #[.int .i64 0, .int .i64 0] 23) = X := ⟨_, rfl⟩
    have hx : Below w1.heap.size w1 W1 := by rw [← hW1]; exact BA (newB _ _) _
    have sA : Spn2 W1 w1.heap.size 0 0 := by rw [← hW1]; exact (spn2_new w1 0 0 _).grown (newB _ _)
    have sB : Spn2 W1 (w1.heap.size + 1) 0 0 := by
      rw [← hW1]
      have h := spn2_new (w1.alloc (.cells #[.int .i64 0, .int .i64 0] 23)) 0 0 23
      rw [World.size_alloc] at h
      exact h
    have hB1 : Below W0.heap.size W0 W1 := BT hB hx
    have HIN : Hid (∀ Y, Below w1.heap.size w1 Y → IntsIn Y sa L) := fun Y hY => hin.below hY
    have hbx := hx
    go_wp2_with fail
    clear hW1 hin
    go_loopw [11] (fun i wz => ∃ k : Nat, k ≤ L.length ∧ i = .int .i64 k ∧ Spn2 wz w1.heap.size (hl F0 L k).1 (hl F0 L k).2 ∧ Spn2 wz (w1.heap.size + 1) (hl F1 L k).1 (hl F1 L k).2 ∧ Below w1.heap.size w1 wz) (fun i _ => L.length - (intOf i).toNat)
    case atStart => exact ⟨0, by omega, rfl, sA, sB, hx⟩
    case round =>
      clear sA sB hx hbx hB1
      obtain ⟨k, hk, rfl, sA, sB, hx⟩ := hrel
      obtain ⟨wo, rfl⟩ : ∃ wo : World, wo = wr := ⟨_, rfl⟩
      have hk0 : (0 : Int) ≤ (k : Int) := by omega
      by_cases hlt : k < L.length
      · skip
        have hki : (k : Int) < (L.length : Int) := by omega
        obtain ⟨g, hsa, hg, hc⟩ : ∃ g, sa = some ⟨g, 0, none⟩ ∧ g < w1.heap.size ∧ ∀ k, k < L.length → w1.cell? ⟨g, k, none⟩ = some (.int .i64 (L.getD k 0)) := by
          rcases HIN.out w1 (Below.refl _ _) with h | h
          · subst h; simp at hlt
          · exact h
        subst hsa
        have hcell : Hid (∀ Y, Below w1.heap.size w1 Y → Y.cell? ⟨g, k, none⟩ = some (.int .i64 (L.getD k 0))) := fun Y hY => (hY.cell (p := ⟨g, k, none⟩) hg).trans (hc k hlt)
        obtain ⟨x1, x2⟩ := hrg k hlt
        have HX0 := Lib.hid (fun Y => HF0.out (L.getD k 0) Y x1 x2)
        have HX1 := Lib.hid (fun Y => HF1.out (L.getD k 0) Y x1 x2)
        obtain ⟨bk, hbk⟩ : ∃ bk, ((k : Int) == 0) = bk := ⟨_, rfl⟩
        have hs0 := hl_step F0 L hbk
        have hs1 := hl_step F1 L hbk
        generalize L.getD k 0 = x at *
        generalize hl F0 L k = m0 at *
        generalize hl F1 L k = m1 at *
        generalize F0 x = q0 at *
        generalize F1 x = q1 at *
        obtain ⟨m00, m01⟩ := m0
        obtain ⟨m10, m11⟩ := m1
        obtain ⟨q00, q01⟩ := q0
        obtain ⟨q10, q11⟩ := q1
        dsimp only at hs0 hs1 sA sB HX0 HX1
        have HS0 := Lib.hid hs0
        have HS1' := Lib.hid hs1
        have HBK := Lib.hid hbk
        clear hs0 hs1 hbk hc
        have hbo : Hid (∀ Y, Below w1.heap.size w1 Y → Y.cell? ⟨w.heap.size, 0, none⟩ = some (.int .i64 p.lo) ∧ Y.cell? ⟨w.heap.size, 1, none⟩ = some (.int .i64 p.hi) ∧ Y.cell? ⟨w.heap.size, 2, none⟩ = some (.slice p.a p.n p.cap)) := fun Y hY => by
          obtain ⟨z0, z1, z2⟩ := HQ.out.grown (BT hB hY)
          exact ⟨z0, z1, z2⟩
        have hI : Hid (∀ Y, Below wo.heap.size wo Y → Y.cell? ⟨w1.heap.size, 0, none⟩ = some (.int .i64 m00) ∧ Y.cell? ⟨w1.heap.size, 1, none⟩ = some (.int .i64 m01) ∧ Y.cell? ⟨w.heap.size, 0, none⟩ = some (.int .i64 p.lo) ∧ Y.cell? ⟨w.heap.size, 1, none⟩ = some (.int .i64 p.hi) ∧ Y.cell? ⟨w.heap.size, 2, none⟩ = some (.slice p.a p.n p.cap) ∧ Y.cell? ⟨g, k, none⟩ = some (.int .i64 x)) := fun Y hY => by
          obtain ⟨z0, z1, z2⟩ := hbo.out Y (BT hx hY)
          exact ⟨(sA.grown hY).c0, (sA.grown hY).c1, z0, z1, z2, hcell.out Y (BT hx hY)⟩
        have hb0 : Below wo.heap.size wo wo.drew := Below.drew (Below.refl _ _)
        go_upto_region 8 with fail
        refine wp_region_seq [(0, true), (1, true), (2, true), (3, true), (4, true), (5, true), (6, true), (8, true), (9, true), (7, false), (10, false), (11, false)] (fun Y => Y.cell? ⟨w1.heap.size, 0, none⟩ = some (.int .i64 m00) ∧ Y.cell? ⟨w1.heap.size, 1, none⟩ = some (.int .i64 m01) ∧ Y.cell? ⟨w.heap.size, 0, none⟩ = some (.int .i64 p.lo) ∧ Y.cell? ⟨w.heap.size, 1, none⟩ = some (.int .i64 p.hi) ∧ Y.cell? ⟨w.heap.size, 2, none⟩ = some (.slice p.a p.n p.cap) ∧ Y.cell? ⟨g, k, none⟩ = some (.int .i64 x)) (by kernel_rfl) (by kernel_rfl) (fun _ _ d _ _ h => by cases d <;> exact h) (hI.out _ hb0) ?_
        refine seq_free (fun F HF Q HQ => ?_)
        generalize wo.drew = X0 at *
        repeat (first | (refine seq_read rfl (by rfl) _ (fun w' hS => by (try dsimp only at hS); go_simp; (try with_reducible rfl)) ?_; (try simp only [Act.put, List.setIfInBounds_toArray, List.set_cons_zero, List.set_cons_succ])) | (refine seq_skip rfl (by rfl) ?_; (try simp only [Act.put, List.setIfInBounds_toArray, List.set_cons_zero, List.set_cons_succ])))
        refine seq_do rfl (by rfl) (fun K hK => ?_)
        go_simp
        refine (HX0.out X0 (BT HB0.out (BT hB (BT hx hb0)))).mono ?_
        rintro e X1 ⟨rfl, hy⟩
        have hb1 := BT hb0 hy
        refine hK _ _ (hI.out _ hb1) ?_
        clear hK K hy
        (try simp only [Act.put, List.setIfInBounds_toArray, List.set_cons_zero, List.set_cons_succ])
        repeat (first | (refine seq_read rfl (by rfl) _ (fun w' hS => by (try dsimp only at hS); go_simp; (try with_reducible rfl)) ?_; (try simp only [Act.put, List.setIfInBounds_toArray, List.set_cons_zero, List.set_cons_succ])) | (refine seq_skip rfl (by rfl) ?_; (try simp only [Act.put, List.setIfInBounds_toArray, List.set_cons_zero, List.set_cons_succ])))
        rw [HBK.out]
        refine seq_do rfl (by rfl) (fun K hK => ?_)
        go_simp
        refine (hull_any m00 m01 q00 q01 bk X1).mono ?_
        rintro e X2 ⟨rfl, hy⟩
        have hb2 := BT hb1 hy
        refine hK _ _ (hI.out _ hb2) ?_
        clear hK K hy
        (try simp only [Act.put, List.setIfInBounds_toArray, List.set_cons_zero, List.set_cons_succ])
        repeat (first | (refine seq_read rfl (by rfl) _ (fun w' hS => by (try dsimp only at hS); go_simp; (try with_reducible rfl)) ?_; (try simp only [Act.put, List.setIfInBounds_toArray, List.set_cons_zero, List.set_cons_succ])) | (refine seq_skip rfl (by rfl) ?_; (try simp only [Act.put, List.setIfInBounds_toArray, List.set_cons_zero, List.set_cons_succ])))
        obtain ⟨n0, hn0⟩ : ∃ n0, (if bk then q00 else min m00 q00) = n0 := ⟨_, rfl⟩
        obtain ⟨n1, hn1⟩ : ∃ n1, (if bk then q01 else max m01 q01) = n1 := ⟨_, rfl⟩
        rw [hn0, hn1]
        have hn0a := Lib.hid hn0
        have hn1a := Lib.hid hn1
        clear hn0 hn1
        have hxx := BC (BC (BT hx hb2) (w1.heap.size) 0 (by omega) (.int .i64 n0)) (w1.heap.size) 1 (by omega) (.int .i64 n1)
        have sA2 := sA.grown hb2
        have sB2 := sB.grown hb2
        obtain ⟨z0, z1, z2, z3⟩ := id sA2
        refine seq_last rfl (by rfl) (by kernel_rfl) (fun K hK => ?_)
        go_simp
        refine hK _ _ ?_
        clear hK K z0 z1 z2 z3
        (try simp only [Act.put, List.setIfInBounds_toArray, List.set_cons_zero, List.set_cons_succ])
        refine HF _ _ ?_
        first | show Exit.inBlock _ _ Exit.normal _ _ | show Exit.then _ _ Exit.normal _ _ | skip
        replace sB2 := (sB2.put (B := w1.heap.size) (by omega) 0 (.int .i64 n0)).put (B := w1.heap.size) (by omega) 1 (.int .i64 n1)
        replace sA2 := sA2.set n0 n1
        clear sA sB hx hI hb0 hb1 hb2 F HF Q HQ
        have sA := sA2
        have sB := sB2
        have hx := hxx
        clear sA2 sB2 hxx
        generalize (X2.setCell ⟨w1.heap.size, 0, none⟩ (.int .i64 n0)).setCell ⟨w1.heap.size, 1, none⟩ (.int .i64 n1) = Va at *
        generalize n0 = n0av at *
        generalize n1 = n1av at *
        have hI : Hid (∀ Y, Below Va.heap.size Va Y → Y.cell? ⟨w1.heap.size + 1, 0, none⟩ = some (.int .i64 m10) ∧ Y.cell? ⟨w1.heap.size + 1, 1, none⟩ = some (.int .i64 m11) ∧ Y.cell? ⟨w.heap.size, 0, none⟩ = some (.int .i64 p.lo) ∧ Y.cell? ⟨w.heap.size, 1, none⟩ = some (.int .i64 p.hi) ∧ Y.cell? ⟨w.heap.size, 2, none⟩ = some (.slice p.a p.n p.cap) ∧ Y.cell? ⟨g, k, none⟩ = some (.int .i64 x)) := fun Y hY => by
          obtain ⟨z0, z1, z2⟩ := hbo.out Y (BT hx hY)
          exact ⟨(sB.grown hY).c0, (sB.grown hY).c1, z0, z1, z2, hcell.out Y (BT hx hY)⟩
        have hb0 : Below Va.heap.size Va Va.drew := Below.drew (Below.refl _ _)
        go_upto_region 9 with fail
        refine wp_region_seq [(0, true), (1, true), (2, true), (3, true), (4, true), (5, true), (6, true), (8, true), (9, true), (7, false), (10, false), (11, false)] (fun Y => Y.cell? ⟨w1.heap.size + 1, 0, none⟩ = some (.int .i64 m10) ∧ Y.cell? ⟨w1.heap.size + 1, 1, none⟩ = some (.int .i64 m11) ∧ Y.cell? ⟨w.heap.size, 0, none⟩ = some (.int .i64 p.lo) ∧ Y.cell? ⟨w.heap.size, 1, none⟩ = some (.int .i64 p.hi) ∧ Y.cell? ⟨w.heap.size, 2, none⟩ = some (.slice p.a p.n p.cap) ∧ Y.cell? ⟨g, k, none⟩ = some (.int .i64 x)) (by kernel_rfl) (by kernel_rfl) (fun _ _ d _ _ h => by cases d <;> exact h) (hI.out _ hb0) ?_
        refine seq_free (fun F HF Q HQ => ?_)
        generalize Va.drew = X0 at *
        repeat (first | (refine seq_read rfl (by rfl) _ (fun w' hS => by (try dsimp only at hS); go_simp; (try with_reducible rfl)) ?_; (try simp only [Act.put, List.setIfInBounds_toArray, List.set_cons_zero, List.set_cons_succ])) | (refine seq_skip rfl (by rfl) ?_; (try simp only [Act.put, List.setIfInBounds_toArray, List.set_cons_zero, List.set_cons_succ])))
        refine seq_do rfl (by rfl) (fun K hK => ?_)
        go_simp
        refine (HX1.out X0 (BT HB0.out (BT hB (BT hx hb0)))).mono ?_
        rintro e X1 ⟨rfl, hy⟩
        have hb1 := BT hb0 hy
        refine hK _ _ (hI.out _ hb1) ?_
        clear hK K hy
        (try simp only [Act.put, List.setIfInBounds_toArray, List.set_cons_zero, List.set_cons_succ])
        repeat (first | (refine seq_read rfl (by rfl) _ (fun w' hS => by (try dsimp only at hS); go_simp; (try with_reducible rfl)) ?_; (try simp only [Act.put, List.setIfInBounds_toArray, List.set_cons_zero, List.set_cons_succ])) | (refine seq_skip rfl (by rfl) ?_; (try simp only [Act.put, List.setIfInBounds_toArray, List.set_cons_zero, List.set_cons_succ])))
        rw [HBK.out]
        refine seq_do rfl (by rfl) (fun K hK => ?_)
        go_simp
        refine (hull_any m10 m11 q10 q11 bk X1).mono ?_
        rintro e X2 ⟨rfl, hy⟩
        have hb2 := BT hb1 hy
        refine hK _ _ (hI.out _ hb2) ?_
        clear hK K hy
        (try simp only [Act.put, List.setIfInBounds_toArray, List.set_cons_zero, List.set_cons_succ])
        repeat (first | (refine seq_read rfl (by rfl) _ (fun w' hS => by (try dsimp only at hS); go_simp; (try with_reducible rfl)) ?_; (try simp only [Act.put, List.setIfInBounds_toArray, List.set_cons_zero, List.set_cons_succ])) | (refine seq_skip rfl (by rfl) ?_; (try simp only [Act.put, List.setIfInBounds_toArray, List.set_cons_zero, List.set_cons_succ])))
        obtain ⟨n0, hn0⟩ : ∃ n0, (if bk then q10 else min m10 q10) = n0 := ⟨_, rfl⟩
        obtain ⟨n1, hn1⟩ : ∃ n1, (if bk then q11 else max m11 q11) = n1 := ⟨_, rfl⟩
        rw [hn0, hn1]
        have hn0b := Lib.hid hn0
        have hn1b := Lib.hid hn1
        clear hn0 hn1
        have hxx := BC (BC (BT hx hb2) (w1.heap.size + 1) 0 (by omega) (.int .i64 n0)) (w1.heap.size + 1) 1 (by omega) (.int .i64 n1)
        have sA2 := sA.grown hb2
        have sB2 := sB.grown hb2
        obtain ⟨z0, z1, z2, z3⟩ := id sB2
        refine seq_last rfl (by rfl) (by kernel_rfl) (fun K hK => ?_)
        go_simp
        refine hK _ _ ?_
        clear hK K z0 z1 z2 z3
        (try simp only [Act.put, List.setIfInBounds_toArray, List.set_cons_zero, List.set_cons_succ])
        refine HF _ _ ?_
        first | show Exit.inBlock _ _ Exit.normal _ _ | show Exit.then _ _ Exit.normal _ _ | skip
        replace sA2 := (sA2.put (B := w1.heap.size + 1) (by omega) 0 (.int .i64 n0)).put (B := w1.heap.size + 1) (by omega) 1 (.int .i64 n1)
        replace sB2 := sB2.set n0 n1
        clear sA sB hx hI hb0 hb1 hb2 F HF Q HQ
        have sA := sA2
        have sB := sB2
        have hx := hxx
        clear sA2 sB2 hxx
        generalize (X2.setCell ⟨w1.heap.size + 1, 0, none⟩ (.int .i64 n0)).setCell ⟨w1.heap.size + 1, 1, none⟩ (.int .i64 n1) = Vb at *
        generalize n0 = n0bv at *
        generalize n1 = n1bv at *
        go_wp2_with fail
        go_roundw
        case rel => exact ⟨k + 1, by omega, by go_num, by rw [HS0.out]; dsimp only; rw [hn0a.out, hn1a.out]; exact sA, by rw [HS1'.out]; dsimp only; rw [hn0b.out, hn1b.out]; exact sB, hx⟩
        case measure => simp [intOf]; omega
      · obtain rfl : k = L.length := by omega
        clear hrg HF0 HF1 HOO
        generalize hl F0 L L.length = m0 at *
        generalize hl F1 L L.length = m1 at *
        obtain ⟨m00, m01⟩ := m0
        obtain ⟨m10, m11⟩ := m1
        dsimp only at sA sB ⊢
        have hs1 := HS1.out.below (BT hB hx) hl1
        have hs2 := HS2.out.below (BT hB hx) hl0
        go_upto_region 10 with fail
        refine wp_region_seq [(0, true), (1, true), (2, false), (3, false), (4, true)] (fun Y => Y.cell? ⟨w1.heap.size, 0, none⟩ = some (.int .i64 m00) ∧ Y.cell? ⟨w1.heap.size, 1, none⟩ = some (.int .i64 m01) ∧ Y.cell? ⟨w1.heap.size + 1, 0, none⟩ = some (.int .i64 m10) ∧ Y.cell? ⟨w1.heap.size + 1, 1, none⟩ = some (.int .i64 m11)) (by kernel_rfl) (by kernel_rfl) (fun _ _ d _ _ h => by cases d <;> exact h) ⟨by simpa using sA.c0, by simpa using sA.c1, by simpa using sB.c0, by simpa using sB.c1⟩ ?_
        have hbd : Below wo.heap.size wo wo.drew := Below.drew (Below.refl _ _)
        replace sA := sA.grown hbd
        replace sB := sB.grown hbd
        replace hs1 := hs1.drew
        replace hs2 := hs2.drew
        have hfin := BC (BC (BC (BC (BT HB0.out (BT hB (BT hx hbd))) (w.heap.size + 1) 0 (by omega) (.int .i64 m00)) (w.heap.size + 1) 1 (by omega) (.int .i64 m01)) (w.heap.size + 1 + 1) 0 (by omega) (.int .i64 m10)) (w.heap.size + 1 + 1) 1 (by omega) (.int .i64 m11)
        clear hx hbd
        generalize wo.drew = X0 at *
        refine seq_free (fun F HF Q HQ => ?_)
        repeat (first | (refine seq_read rfl (by rfl) _ (fun w' hS => by (try dsimp only at hS); go_simp; (try with_reducible rfl)) ?_; (try simp only [Act.put, List.setIfInBounds_toArray, List.set_cons_zero, List.set_cons_succ])) | (refine seq_skip rfl (by rfl) ?_; (try simp only [Act.put, List.setIfInBounds_toArray, List.set_cons_zero, List.set_cons_succ])))
        refine seq_do rfl (by rfl) (fun K hK => ?_)
        obtain ⟨u0, r0, f0⟩ := hs1.get 0 (by omega)
        obtain ⟨u1, r1, f1⟩ := hs1.get 1 (by omega)
        obtain ⟨v0, t0, g0⟩ := hs2.get 0 (by omega)
        obtain ⟨v1, t1, g1⟩ := hs2.get 1 (by omega)
        replace sA := (sA.put (B := w.heap.size + 1) (by omega) 0 (.int .i64 m00)).put (B := w.heap.size + 1) (by omega) 1 (.int .i64 m01)
        replace sB := (sB.put (B := w.heap.size + 1) (by omega) 0 (.int .i64 m00)).put (B := w.heap.size + 1) (by omega) 1 (.int .i64 m01)
        go_simp
        refine hK _ _ ⟨sA.c0, sA.c1, sB.c0, sB.c1⟩ ?_
        clear hK K
        (try simp only [Act.put, List.setIfInBounds_toArray, List.set_cons_zero, List.set_cons_succ])
        repeat (first | (refine seq_read rfl (by rfl) _ (fun w' hS => by (try dsimp only at hS); go_simp; (try with_reducible rfl)) ?_; (try simp only [Act.put, List.setIfInBounds_toArray, List.set_cons_zero, List.set_cons_succ])) | (refine seq_skip rfl (by rfl) ?_; (try simp only [Act.put, List.setIfInBounds_toArray, List.set_cons_zero, List.set_cons_succ])))
        replace sA := (sA.put (B := w.heap.size + 1 + 1) (by omega) 0 (.int .i64 m10)).put (B := w.heap.size + 1 + 1) (by omega) 1 (.int .i64 m11)
        replace sB := (sB.put (B := w.heap.size + 1 + 1) (by omega) 0 (.int .i64 m10)).put (B := w.heap.size + 1 + 1) (by omega) 1 (.int .i64 m11)
        refine seq_do rfl (by rfl) (fun K hK => ?_)
        go_simp
        refine hK _ _ ⟨sA.c0, sA.c1, sB.c0, sB.c1⟩ ?_
        clear hK K sA sB
        (try simp only [Act.put, List.setIfInBounds_toArray, List.set_cons_zero, List.set_cons_succ])
        repeat (first | (refine seq_read rfl (by rfl) _ (fun w' hS => by (try dsimp only at hS); go_simp; (try with_reducible rfl)) ?_; (try simp only [Act.put, List.setIfInBounds_toArray, List.set_cons_zero, List.set_cons_succ])) | (refine seq_skip rfl (by rfl) ?_; (try simp only [Act.put, List.setIfInBounds_toArray, List.set_cons_zero, List.set_cons_succ])))
        apply seq_end
        refine HF _ _ ?_
        first | show Exit.inBlock _ _ Exit.normal _ _ | show Exit.then _ _ Exit.normal _ _ | skip
        go_wp2_with fail
        exact bodyPost_ret (v := .tuple #[.agg #[.int .i64 m00, .int .i64 m01], .agg #[.int .i64 m10, .int .i64 m11], .int .i64 0]) (by simp [results, Tryz.results13, go_sem, r0, r1, t0, t1]) rfl ⟨rfl, hfin⟩
end Go.Proofs.YtdkegkacpdkjgaaGreat

namespace Go.Proofs.YtdkegkacpdkjgaaGreat
open Go.RowKit Go.Maps

/-- What is kept is what some truths have, and bounds what any has. -/
structure KepOf (f : Scl → Int × Int) (xs : List Scl) (k : Int × Int × Bool) : Prop where
  no : k.2.2 = false → k = (0, 0, false)
  lo : k.2.2 = true → ∃ x ∈ xs, (f x).1 ≤ (f x).2 ∧ k.1 = (f x).1
  hi : k.2.2 = true → ∃ x ∈ xs, (f x).1 ≤ (f x).2 ∧ k.2.1 = (f x).2
  all : ∀ x ∈ xs, (f x).1 ≤ (f x).2 → k.2.2 = true ∧ k.1 ≤ (f x).1 ∧ (f x).2 ≤ k.2.1
theorem kepS_of {f : Scl → Int × Int} {xs : List Scl} {k : Int × Int × Bool} (h : KepOf f xs k) (x : Scl) : KepOf f (xs ++ [x]) (kepS k (f x).1 (f x).2) := by
  obtain ⟨a, b, t⟩ := k
  obtain ⟨h1, h2, h3, h4⟩ := h
  have hm : ∀ y, y ∈ xs ++ [x] ↔ y ∈ xs ∨ y = x := fun y => by simp
  unfold kepS
  by_cases hx : (f x).1 ≤ (f x).2
  · rw [if_pos hx]
    cases t
    · rw [if_neg (by simp)]
      have hno : ∀ y ∈ xs, ¬ (f y).1 ≤ (f y).2 := fun y hy hle => by cases (h4 y hy hle).1
      refine ⟨fun h => (by cases h), fun _ => ⟨x, (hm x).2 (.inr rfl), hx, rfl⟩, fun _ => ⟨x, (hm x).2 (.inr rfl), hx, rfl⟩, fun y hy hle => ?_⟩
      rcases (hm y).1 hy with h | rfl
      · exact absurd hle (hno y h)
      · exact ⟨rfl, Int.le_refl _, Int.le_refl _⟩
    · rw [if_pos rfl]
      dsimp only at h2 h3 h4 ⊢
      obtain ⟨y, hy, hyl, rfl⟩ := h2 rfl
      obtain ⟨z, hz, hzl, rfl⟩ := h3 rfl
      refine ⟨fun h => (by cases h), fun _ => ?_, fun _ => ?_, fun u hu hle => ?_⟩
      · rcases Int.le_total (f y).1 (f x).1 with h | h
        · exact ⟨y, (hm y).2 (.inl hy), hyl, by dsimp only; omega⟩
        · exact ⟨x, (hm x).2 (.inr rfl), hx, by dsimp only; omega⟩
      · rcases Int.le_total (f x).2 (f z).2 with h | h
        · exact ⟨z, (hm z).2 (.inl hz), hzl, by dsimp only; omega⟩
        · exact ⟨x, (hm x).2 (.inr rfl), hx, by dsimp only; omega⟩
      · rcases (hm u).1 hu with h | rfl
        · have := (h4 u h hle).2
          exact ⟨rfl, by dsimp only; omega, by dsimp only; omega⟩
        · exact ⟨rfl, by dsimp only; omega, by dsimp only; omega⟩
  · rw [if_neg hx]
    refine ⟨h1, fun h => ?_, fun h => ?_, fun y hy hle => ?_⟩
    · obtain ⟨y, hy, hyl, e⟩ := h2 h; exact ⟨y, (hm y).2 (.inl hy), hyl, e⟩
    · obtain ⟨y, hy, hyl, e⟩ := h3 h; exact ⟨y, (hm y).2 (.inl hy), hyl, e⟩
    · rcases (hm y).1 hy with h | rfl
      · exact h4 y h hle
      · exact absurd hle hx
theorem kepL_of (f : Scl → Int × Int) (xs : List Scl) : KepOf f xs (kepL f xs) := by
  have : ∀ (xs ys : List Scl) (k : Int × Int × Bool), KepOf f ys k → KepOf f (ys ++ xs) (xs.foldl (fun k x => kepS k (f x).1 (f x).2) k) := fun xs => by
    induction xs with
    | nil => intro ys k h; simpa using h
    | cons x xs ih =>
      intro ys k h
      have := ih (ys ++ [x]) _ (kepS_of h x)
      simpa using this
  have h := this xs [] (0, 0, false) ⟨fun _ => rfl, fun h => (by cases h), fun h => (by cases h), fun x hx => (by cases hx)⟩
  rw [List.nil_append] at h
  exact h
/-- What more truths have is no narrower. -/
theorem kep_in {f g : Scl → Int × Int} {xs ys : List Scl} (h : ∀ x ∈ xs, (f x).1 ≤ (f x).2 → ∃ y ∈ ys, (g y).1 ≤ (f x).1 ∧ (f x).2 ≤ (g y).2) (hk : (kepL f xs).2.2 = true) :
    (kepL g ys).2.2 = true ∧ (kepL g ys).1 ≤ (kepL f xs).1 ∧ (kepL f xs).2.1 ≤ (kepL g ys).2.1 := by
  obtain ⟨x, hx, hxl, e1⟩ := (kepL_of f xs).lo hk
  obtain ⟨z, hz, hzl, e2⟩ := (kepL_of f xs).hi hk
  obtain ⟨u, hu, hu1, hu2⟩ := h x hx hxl
  obtain ⟨v, hv, hv1, hv2⟩ := h z hz hzl
  have a := (kepL_of g ys).all u hu (by omega)
  have b := (kepL_of g ys).all v hv (by omega)
  exact ⟨a.1, by omega, by omega⟩
theorem kep_no {f : Scl → Int × Int} {xs : List Scl} (h : ∀ x ∈ xs, ¬ (f x).1 ≤ (f x).2) : kepL f xs = (0, 0, false) := by
  have k := kepL_of f xs
  cases ht : (kepL f xs).2.2
  · exact k.no ht
  · obtain ⟨x, hx, hxl, _⟩ := k.lo ht
    exact absurd hxl (h x hx)
/-- What is farther on by as much is kept so. -/
theorem kep_shift {c : Int} {f g : Scl → Int × Int} {xs ys : List Scl} (h1 : ∀ x ∈ xs, (f x).1 ≤ (f x).2 → ∃ y ∈ ys, (g y).1 = (f x).1 + c ∧ (g y).2 = (f x).2 + c)
    (h2 : ∀ y ∈ ys, (g y).1 ≤ (g y).2 → ∃ x ∈ xs, (g y).1 = (f x).1 + c ∧ (g y).2 = (f x).2 + c) :
    kepL g ys = if (kepL f xs).2.2 then ((kepL f xs).1 + c, (kepL f xs).2.1 + c, true) else (0, 0, false) := by
  have kf := kepL_of f xs
  have kg := kepL_of g ys
  cases ht : (kepL f xs).2.2
  · rw [if_neg (by simp)]
    refine kep_no fun y hy hyl => ?_
    obtain ⟨x, hx, e1, e2⟩ := h2 y hy hyl
    have := (kf.all x hx (by omega)).1
    rw [ht] at this; cases this
  · rw [if_pos rfl]
    obtain ⟨x, hx, hxl, e1⟩ := kf.lo ht
    obtain ⟨z, hz, hzl, e2⟩ := kf.hi ht
    obtain ⟨u, hu, u1, u2⟩ := h1 x hx hxl
    obtain ⟨v, hv, v1, v2⟩ := h1 z hz hzl
    have a := kg.all u hu (by omega)
    have b := kg.all v hv (by omega)
    obtain ⟨p, hp, hpl, q1⟩ := kg.lo a.1
    obtain ⟨q, hq, hql, q2⟩ := kg.hi a.1
    obtain ⟨p', hp', r1, r2⟩ := h2 p hp hpl
    obtain ⟨q', hq', r3, r4⟩ := h2 q hq hql
    have c1 := kf.all p' hp' (by omega)
    have c2 := kf.all q' hq' (by omega)
    have e : ∀ k : Int × Int × Bool, k.1 = (kepL f xs).1 + c → k.2.1 = (kepL f xs).2.1 + c → k.2.2 = true → k = ((kepL f xs).1 + c, (kepL f xs).2.1 + c, true) := fun k h1 h2 h3 => by
      obtain ⟨k1, k2, k3⟩ := k
      dsimp only at h1 h2 h3
      rw [h1, h2, h3]
    exact e _ (by omega) (by omega) a.1
theorem kep_same {f g : Scl → Int × Int} {xs ys : List Scl} (h1 : ∀ x ∈ xs, (f x).1 ≤ (f x).2 → ∃ y ∈ ys, g y = f x) (h2 : ∀ y ∈ ys, (g y).1 ≤ (g y).2 → ∃ x ∈ xs, g y = f x) : kepL g ys = kepL f xs := by
  rw [kep_shift (c := 0) (f := f) (g := g) (xs := xs) (ys := ys) (fun x hx hl => by obtain ⟨y, hy, e⟩ := h1 x hx hl; exact ⟨y, hy, by rw [e]; omega, by rw [e]; omega⟩)
    (fun y hy hl => by obtain ⟨x, hx, e⟩ := h2 y hy hl; exact ⟨x, hx, by rw [e]; omega, by rw [e]; omega⟩)]
  have k := kepL_of f xs
  cases ht : (kepL f xs).2.2
  · rw [if_neg (by simp), k.no ht]
  · rw [if_pos rfl, Int.add_zero, Int.add_zero]
    have e : ∀ k : Int × Int × Bool, k.2.2 = true → (k.1, k.2.1, true) = k := fun k h => by obtain ⟨a, b, c⟩ := k; dsimp only at h; rw [h]
    exact e _ ht

/-- Where the corner can be: what all stars of a set allow. -/
theorem cor_iff {ss : List St} {sc : Int} {R : Nat → Bool} {d : Bool} {c : Int} : ∀ {k : Nat}, ((corS ss sc R d k).1 ≤ c ∧ c ≤ (corS ss sc R d k).2) ↔
    ((-67108864 ≤ c ∧ c ≤ 67108864) ∧ ∀ i, i < k → R i = true → (cbS sc (ss.getD i default) d).1 ≤ c ∧ c ≤ (cbS sc (ss.getD i default) d).2)
  | 0 => by unfold corS; exact ⟨fun h => ⟨h, fun i hi => by omega⟩, fun h => h.1⟩
  | k + 1 => by
    have ih := cor_iff (ss := ss) (sc := sc) (R := R) (d := d) (c := c) (k := k)
    rw [corS]
    split
    · rename_i hR
      dsimp only
      constructor
      · intro h
        have h0 := ih.1 ⟨by omega, by omega⟩
        refine ⟨h0.1, fun i hi hr => ?_⟩
        by_cases he : i = k
        · subst he; omega
        · exact h0.2 i (by omega) hr
      · intro h
        have h0 := ih.2 ⟨h.1, fun i hi => h.2 i (by omega)⟩
        have h1 := h.2 k (by omega) hR
        omega
    · rename_i hR
      rw [ih]
      constructor
      · intro h
        refine ⟨h.1, fun i hi hr => ?_⟩
        by_cases he : i = k
        · subst he; exact absurd hr hR
        · exact h.2 i (by omega) hr
      · exact fun h => ⟨h.1, fun i hi => h.2 i (by omega)⟩
/-- A scale is one of a plate if there is a corner with it. -/
def CornC (ss : List St) (sc : Int) (R : Nat → Bool) (n : Nat) (d : Bool) (c : Int) : Prop :=
  (-67108864 ≤ c ∧ c ≤ 67108864) ∧ ∀ i, i < n → R i = true → (cbS sc (ss.getD i default) d).1 ≤ c ∧ c ≤ (cbS sc (ss.getD i default) d).2
theorem corB_iff {ss : List St} {sc : Int} {R : Nat → Bool} {n : Nat} : corB ss sc R n = true ↔ ∀ d, ∃ c, CornC ss sc R n d c := by
  have h : ∀ d, (corS ss sc R d n).1 ≤ (corS ss sc R d n).2 ↔ ∃ c, CornC ss sc R n d c := fun d =>
    ⟨fun h => ⟨_, cor_iff.1 ⟨Int.le_refl _, h⟩⟩, fun ⟨c, hc⟩ => by have := cor_iff.2 hc; omega⟩
  unfold corB
  rw [Bool.and_eq_true, decide_eq_true_eq, decide_eq_true_eq, h, h]
  exact ⟨fun h d => match d with | false => h.1 | true => h.2, fun h => ⟨h false, h true⟩⟩
theorem trTo_has {ss : List St} {R : Nat → Bool} {n : Nat} {lo sc : Int} (hs : 0 ≤ sc ∧ sc ≤ 1000) (hb : corB ss sc R n = true) (h0 : lo ≤ sc) : ∀ {k : Nat}, sc < lo + k → ∃ x ∈ trTo ss R n lo k, x.sc = sc ∧ ∀ d, (x.lo d, x.hi d) = corS ss sc R d n
  | 0, h => by omega
  | k + 1, h => by
    rw [trTo]
    by_cases he : sc = lo + k
    · subst he
      rw [trOf_yes hs hb]
      exact ⟨_, List.mem_append_right _ (List.mem_singleton.2 rfl), rfl, fun d => by cases d <;> rfl⟩
    · obtain ⟨x, hx, e⟩ := trTo_has hs hb h0 (k := k) (by omega)
      exact ⟨x, List.mem_append_left _ hx, e⟩
theorem trL_iff {p : Pl} {ss : List St} (hlo : 1 ≤ p.lo) (hhi : p.hi ≤ 1000) {set : Int} {sc : Int} : (∃ x ∈ trL p ss set, x.sc = sc) ↔ (p.lo ≤ sc ∧ sc ≤ p.hi) ∧ corB ss sc (setI set) p.n = true := by
  constructor
  · rintro ⟨x, hx, rfl⟩
    obtain ⟨h1, h2, h3, _⟩ := trTo_mem hx
    exact ⟨⟨h1, by omega⟩, h3⟩
  · rintro ⟨⟨h1, h2⟩, h3⟩
    obtain ⟨x, hx, e, _⟩ := trTo_has (lo := p.lo) (k := (p.hi - p.lo + 1).toNat) (by omega) h3 h1 (by omega)
    exact ⟨x, hx, e⟩
theorem trL_of {p : Pl} {ss : List St} {set : Int} {x : Scl} (hx : x ∈ trL p ss set) : (p.lo ≤ x.sc ∧ x.sc ≤ p.hi) ∧ corB ss x.sc (setI set) p.n = true ∧ ∀ d, (x.lo d, x.hi d) = corS ss x.sc (setI set) d p.n := by
  obtain ⟨h1, h2, h3, h4⟩ := trTo_mem hx
  exact ⟨⟨h1, by omega⟩, h3, h4⟩
theorem trL_mk {p : Pl} {ss : List St} (hlo : 1 ≤ p.lo) (hhi : p.hi ≤ 1000) {set : Int} {sc : Int} (h1 : p.lo ≤ sc) (h2 : sc ≤ p.hi) (h3 : corB ss sc (setI set) p.n = true) : ∃ x ∈ trL p ss set, x.sc = sc ∧ ∀ d, (x.lo d, x.hi d) = corS ss sc (setI set) d p.n :=
  trTo_has (lo := p.lo) (k := (p.hi - p.lo + 1).toNat) (by omega) h3 h1 (by omega)
theorem canR_iff {p : Pl} {ss : List St} (hlo : 1 ≤ p.lo) (hhi : p.hi ≤ 1000) {set : Int} : canR p ss set = true ↔ ∃ sc, (p.lo ≤ sc ∧ sc ≤ p.hi) ∧ corB ss sc (setI set) p.n = true := by
  unfold canR
  constructor
  · intro h
    cases hx : trL p ss set with
    | nil => rw [hx] at h; cases h
    | cons x xs => exact ⟨x.sc, (trL_iff hlo hhi).1 ⟨x, by rw [hx]; exact List.mem_cons_self, rfl⟩⟩
  · rintro ⟨sc, h⟩
    obtain ⟨x, hx, _⟩ := (trL_iff hlo hhi).2 h
    cases ht : trL p ss set with
    | nil => rw [ht] at hx; cases hx
    | cons => rfl
theorem tr_nil {p : Pl} {ss : List St} {set : Int} : trL p ss set = [] ↔ canR p ss set = false := by
  unfold canR; cases trL p ss set <;> simp
/-- What is known of a star by bits. -/
theorem bit_nat {n i : Nat} (hn : n < 4096) (hi : i < 12) : setI (n : Int) i = n.testBit i := by
  have hp : wrap64 (2 ^ i) = ((2 ^ i : Nat) : Int) := (by decide +kernel : ∀ k : Fin 12, wrap64 (2 ^ k.val) = ((2 ^ k.val : Nat) : Int)) ⟨i, hi⟩
  have hp2 : 1 ≤ 2 ^ i ∧ 2 ^ i < 4096 := (by decide +kernel : ∀ k : Fin 12, 1 ≤ 2 ^ k.val ∧ 2 ^ k.val < 4096) ⟨i, hi⟩
  have ha : n &&& 2 ^ i = if n.testBit i then 2 ^ i else 0 := by
    apply Nat.eq_of_testBit_eq
    intro j
    rw [Nat.testBit_and, Nat.testBit_two_pow]
    by_cases h : i = j
    · subst h
      cases hb : n.testBit i
      · simp
      · simp
    · rw [decide_eq_false h, Bool.and_false]
      split
      · rw [Nat.testBit_two_pow, decide_eq_false h]
      · simp
  have h1 : setI (n : Int) i = (IntKind.i64.wrap (((if n.testBit i then 2 ^ i else 0) : Nat) : Int) != 0) := by
    unfold setI bits
    rw [hp]
    dsimp only
    rw [BitVec.toNat_and, bv_nat (by omega), bv_nat (by omega), ha]
  rw [h1]
  cases n.testBit i
  · rw [if_neg (by simp), i64_of_nat (by omega)]; rfl
  · rw [if_pos rfl, i64_of_nat (by omega)]
    generalize 2 ^ i = q at *
    simp; omega
theorem known_nat (ss : List St) : ∀ k : Nat, k ≤ 12 → ∃ n : Nat, knownTo ss k = (n : Int) ∧ n < 2 ^ k ∧ ∀ i, n.testBit i = (decide (i < k) && (ss.getD i default).k)
  | 0, _ => ⟨0, rfl, by simp, fun i => by simp⟩
  | k + 1, h => by
    obtain ⟨n, e, h1, h2⟩ := known_nat ss k (by omega)
    have hs := known_rng ss k (by omega)
    have hp : 2 ^ (k + 1) = 2 * 2 ^ k := by rw [Nat.pow_succ, Nat.mul_comm]
    rw [knownTo]
    split
    · rename_i hk
      refine ⟨2 ^ k + n, ?_, by omega, fun i => ?_⟩
      · rw [or_bit12 (by omega) hs.1 hs.2, e]; simp; omega
      · rcases Nat.lt_trichotomy i k with hi | rfl | hi
        · rw [Nat.testBit_two_pow_add_gt hi, h2, decide_eq_true hi, decide_eq_true (show i < k + 1 by omega)]
        · rw [Nat.testBit_two_pow_add_eq, h2, decide_eq_false (by omega), decide_eq_true (by omega), hk]; rfl
        · rw [decide_eq_false (by omega), Bool.false_and]
          exact Nat.testBit_lt_two_pow (Nat.lt_of_lt_of_le (show 2 ^ k + n < 2 ^ (k + 1) by omega) (Nat.pow_le_pow_right (by decide) hi))
    · rename_i hk
      refine ⟨n, e, by omega, fun i => ?_⟩
      rw [h2]
      by_cases he : i = k
      · subst he
        rw [decide_eq_false (by omega), Bool.eq_false_iff.2 hk]; simp
      · rw [decide_eq_decide.2 (show i < k ↔ i < k + 1 by omega)]
theorem known_bit (ss : List St) {k i : Nat} (hk : k ≤ 12) (hi : i < k) : setI (knownTo ss k) i = (ss.getD i default).k := by
  obtain ⟨n, e, h1, h2⟩ := known_nat ss k hk
  have hp : 2 ^ k ≤ 4096 := (by decide +kernel : ∀ k : Fin 13, 2 ^ k.val ≤ 4096) ⟨k, by omega⟩
  rw [e, bit_nat (by omega) (by omega), h2, decide_eq_true hi]; simp
theorem known_none {ss : List St} {k : Nat} (hk : k ≤ 12) : knownTo ss k = 0 ↔ ∀ i, i < k → (ss.getD i default).k = false := by
  obtain ⟨n, e, h1, h2⟩ := known_nat ss k hk
  rw [e]
  constructor
  · intro h i hi
    obtain rfl : n = 0 := by omega
    have := h2 i
    rw [decide_eq_true hi, Nat.zero_testBit] at this
    simpa using this.symm
  · intro h
    have : n = 0 := Nat.eq_of_testBit_eq fun i => by
      rw [h2, Nat.zero_testBit]
      by_cases hi : i < k
      · rw [h i hi]; simp
      · rw [decide_eq_false hi]; rfl
    rw [this]; rfl
theorem known_some {ss : List St} {k : Nat} (hk : k ≤ 12) (h : knownTo ss k ≠ 0) : ∃ i, i < k ∧ (ss.getD i default).k = true := by
  by_cases hx : ∃ i, i < k ∧ (ss.getD i default).k = true
  · exact hx
  · refine absurd ((known_none hk).2 fun i hi => ?_) h
    cases e : (ss.getD i default).k
    · rfl
    · exact absurd ⟨i, hi, e⟩ hx
end Go.Proofs.YtdkegkacpdkjgaaGreat

namespace Go.Proofs.YtdkegkacpdkjgaaGreat
open Go.RowKit Go.Maps

def movS (b t : Int) (s : St) : St := if s.k then { s with e0 := s.e0 + b, e1 := s.e1 + b, n0 := s.n0 + t, n1 := s.n1 + t } else s
def dlt (b t : Int) (d : Bool) : Int := if d then t else b
theorem mov_k (b t : Int) (s : St) : (movS b t s).k = s.k := by unfold movS; split <;> rfl
theorem mov_on (b t : Int) (s : St) (d : Bool) : (movS b t s).on d = s.on d := by unfold movS; split <;> rfl
theorem mov_sky {b t : Int} {s : St} (h : s.k = true) (d : Bool) : (movS b t s).sky d = ((s.sky d).1 + dlt b t d, (s.sky d).2 + dlt b t d) := by
  unfold movS; rw [if_pos h]; cases d <;> rfl
theorem mov_bey (b t sc : Int) (s : St) (d : Bool) : beyS sc (movS b t s) d = beyS sc s d := by unfold beyS; rw [mov_on]
theorem mov_cb {b t sc : Int} {s : St} (h : s.k = true) (d : Bool) : (cbS sc (movS b t s) d).1 = (cbS sc s d).1 + dlt b t d ∧ (cbS sc (movS b t s) d).2 = (cbS sc s d).2 + dlt b t d := by
  have hs := mov_sky (b := b) (t := t) h d
  unfold cbS saidS
  rw [mov_bey, mov_k, h, if_pos rfl, if_pos rfl, hs]
  dsimp only
  omega
theorem mov_un {b t : Int} {s : St} (h : s.k = false) : movS b t s = s := by unfold movS; rw [h]; rfl
theorem mov_get (b t : Int) (ss : List St) (i : Nat) : (ss.map (movS b t)).getD i default = movS b t (ss.getD i default) := by
  rw [List.getD_eq_getElem?_getD, List.getD_eq_getElem?_getD, List.getElem?_map]
  cases ss[i]? with
  | none => rfl
  | some s => rfl
theorem known_ext {ss ss' : List St} (h : ∀ i, (ss'.getD i default).k = (ss.getD i default).k) : ∀ n, knownTo ss' n = knownTo ss n
  | 0 => rfl
  | n + 1 => by rw [knownTo, knownTo, known_ext h n, h]
theorem mov_known (b t : Int) (ss : List St) (n : Nat) : knownTo (ss.map (movS b t)) n = knownTo ss n := known_ext (fun i => by rw [mov_get, mov_k]) n
theorem mov_none {b t : Int} {ss : List St} (h : knownTo ss ss.length = 0) (h12 : ss.length ≤ 12) : ss.map (movS b t) = ss := by
  apply List.ext_getElem?
  intro i
  rw [List.getElem?_map]
  cases hi : ss[i]? with
  | none => rfl
  | some s =>
    have hl : i < ss.length := (List.getElem?_eq_some_iff.1 hi).1
    have := (known_none h12).1 h i hl
    rw [List.getD_eq_getElem?_getD, hi] at this
    show some (movS b t s) = some s
    rw [mov_un (show s.k = false from this)]
/-- With a known star the corner is near. -/
theorem near {s : St} {d : Bool} (h : StOk s d) (hk : s.k = true) {sc : Int} (h0 : 0 ≤ sc) (h1 : sc ≤ 1000) : -1081344 ≤ (cbS sc s d).1 ∧ (cbS sc s d).2 ≤ 1048576 ∧ (cbS sc s d).1 ≤ (cbS sc s d).2 := by
  have h2 := bey_rng h h0 h1
  have a := h.e hk; have b := h.f hk; have c := h.g hk
  unfold cbS saidS
  rw [hk, if_pos rfl]
  dsimp only
  omega
theorem corn_near {ss : List St} {sc : Int} {R : Nat → Bool} {n i : Nat} {d : Bool} {c : Int} (h : CornC ss sc R n d c) (hi : i < n) (hR : R i = true) (hok : StOk (ss.getD i default) d) (hk : (ss.getD i default).k = true) (h0 : 0 ≤ sc) (h1 : sc ≤ 1000) : -1081344 ≤ c ∧ c ≤ 1048576 := by
  have := h.2 i hi hR
  have := near hok hk h0 h1
  omega
/-- The same truths, farther on. -/
structure Pair (δ : Bool → Int) (xs ys : List Scl) : Prop where
  fwd : ∀ x ∈ xs, ∃ y ∈ ys, y.sc = x.sc ∧ ∀ d, y.lo d = x.lo d + δ d ∧ y.hi d = x.hi d + δ d
  bwd : ∀ y ∈ ys, ∃ x ∈ xs, y.sc = x.sc ∧ ∀ d, y.lo d = x.lo d + δ d ∧ y.hi d = x.hi d + δ d
theorem corS_shift {ss ss' : List St} {sc : Int} {R R' : Nat → Bool} {n : Nat} {d : Bool} {δ : Int} (h : ∀ c, CornC ss sc R n d c ↔ CornC ss' sc R' n d (c + δ)) :
    ((corS ss sc R d n).1 ≤ (corS ss sc R d n).2 ↔ (corS ss' sc R' d n).1 ≤ (corS ss' sc R' d n).2) ∧ ((corS ss sc R d n).1 ≤ (corS ss sc R d n).2 → (corS ss' sc R' d n).1 = (corS ss sc R d n).1 + δ ∧ (corS ss' sc R' d n).2 = (corS ss sc R d n).2 + δ) := by
  have e : ∀ c, ((corS ss sc R d n).1 ≤ c ∧ c ≤ (corS ss sc R d n).2) ↔ ((corS ss' sc R' d n).1 ≤ c + δ ∧ c + δ ≤ (corS ss' sc R' d n).2) := fun c => by rw [cor_iff, cor_iff]; exact h c
  have a := e (corS ss sc R d n).1
  have b := e (corS ss sc R d n).2
  have c := e ((corS ss' sc R' d n).1 - δ)
  have f := e ((corS ss' sc R' d n).2 - δ)
  omega
theorem corB_ne {ss : List St} {sc : Int} {R : Nat → Bool} {n : Nat} (h : corB ss sc R n = true) (d : Bool) : (corS ss sc R d n).1 ≤ (corS ss sc R d n).2 := by
  unfold corB at h
  simp only [Bool.and_eq_true, decide_eq_true_eq] at h
  cases d
  · exact h.1
  · exact h.2
theorem corB_shift {ss ss' : List St} {sc : Int} {R R' : Nat → Bool} {n : Nat} {δ : Bool → Int} (h : ∀ d c, CornC ss sc R n d c ↔ CornC ss' sc R' n d (c + δ d)) : corB ss sc R n = corB ss' sc R' n := by
  have a := (corS_shift (h false)).1
  have b := (corS_shift (h true)).1
  unfold corB
  rw [decide_eq_decide.2 a, decide_eq_decide.2 b]
theorem can_shift {p p' : Pl} {ss ss' : List St} {set set' : Int} {δ : Bool → Int} (hlo : 1 ≤ p.lo) (hhi : p.hi ≤ 1000) (e1 : p'.lo = p.lo) (e2 : p'.hi = p.hi) (e3 : p'.n = p.n)
    (h : ∀ sc, p.lo ≤ sc → sc ≤ p.hi → ∀ d c, CornC ss sc (setI set) p.n d c ↔ CornC ss' sc (setI set') p.n d (c + δ d)) : canR p' ss' set' = canR p ss set := by
  have hi : canR p' ss' set' = true ↔ canR p ss set = true := by
    rw [canR_iff hlo hhi, canR_iff (by omega) (by omega), e1, e2, e3]
    constructor
    · rintro ⟨sc, h1, h2⟩; exact ⟨sc, h1, by rw [corB_shift (h sc h1.1 h1.2)]; exact h2⟩
    · rintro ⟨sc, h1, h2⟩; exact ⟨sc, h1, by rw [← corB_shift (h sc h1.1 h1.2)]; exact h2⟩
  cases ha : canR p ss set
  · cases hb : canR p' ss' set'
    · rfl
    · rw [hi.1 hb] at ha; cases ha
  · exact hi.2 ha
theorem pair_of {p p' : Pl} {ss ss' : List St} {set set' : Int} {δ : Bool → Int} (hlo : 1 ≤ p.lo) (hhi : p.hi ≤ 1000) (e1 : p'.lo = p.lo) (e2 : p'.hi = p.hi) (e3 : p'.n = p.n)
    (h : ∀ sc, p.lo ≤ sc → sc ≤ p.hi → ∀ d c, CornC ss sc (setI set) p.n d c ↔ CornC ss' sc (setI set') p.n d (c + δ d)) : Pair δ (trL p ss set) (trL p' ss' set') := by
  have hl : ∀ (x : Scl) (q : Int × Int) (d : Bool), (x.lo d, x.hi d) = q → x.lo d = q.1 ∧ x.hi d = q.2 := fun x q d h => by rw [← h]; exact ⟨rfl, rfl⟩
  constructor
  · intro x hx
    obtain ⟨⟨h1, h2⟩, h3, h4⟩ := trL_of hx
    obtain ⟨y, hy, y1, y2⟩ := trL_mk (p := p') (ss := ss') (set := set') (by omega) (by omega) (sc := x.sc) (by omega) (by omega) (by rw [e3, ← corB_shift (h _ h1 h2)]; exact h3)
    refine ⟨y, hy, y1, fun d => ?_⟩
    have a := hl _ _ _ (h4 d)
    have b := hl _ _ _ (y2 d)
    rw [e3] at b
    have c := (corS_shift (h x.sc h1 h2 d)).2 (corB_ne h3 d)
    omega
  · intro y hy
    obtain ⟨⟨h1, h2⟩, h3, h4⟩ := trL_of hy
    rw [e3] at h3 h4
    have h3' := h3
    rw [← corB_shift (h y.sc (by omega) (by omega))] at h3'
    obtain ⟨x, hx, x1, x2⟩ := trL_mk (p := p) (ss := ss) (set := set) hlo hhi (sc := y.sc) (by omega) (by omega) h3'
    refine ⟨x, hx, x1.symm, fun d => ?_⟩
    have a := hl _ _ _ (h4 d)
    have b := hl _ _ _ (x2 d)
    have c := (corS_shift (h y.sc (by omega) (by omega) d)).2 (corB_ne h3' d)
    omega
theorem pair_nil {δ : Bool → Int} {xs ys : List Scl} (h : Pair δ xs ys) : xs = [] ↔ ys = [] := by
  constructor
  · rintro rfl
    cases ys with
    | nil => rfl
    | cons y ys => obtain ⟨x, hx, _⟩ := h.bwd y List.mem_cons_self; cases hx
  · rintro rfl
    cases xs with
    | nil => rfl
    | cons x xs => obtain ⟨x, hx, _⟩ := h.fwd x List.mem_cons_self; cases hx
end Go.Proofs.YtdkegkacpdkjgaaGreat

namespace Go.Proofs.YtdkegkacpdkjgaaGreat
open Go.RowKit Go.Maps

theorem test_add {b v : Nat} (hv : v < 2 ^ b) (i : Nat) : (2 ^ b + v).testBit i = (decide (i = b) || v.testBit i) := by
  rcases Nat.lt_trichotomy i b with hi | rfl | hi
  · rw [Nat.testBit_two_pow_add_gt hi, decide_eq_false (by omega), Bool.false_or]
  · rw [Nat.testBit_two_pow_add_eq, Nat.testBit_lt_two_pow hv, decide_eq_true rfl]; rfl
  · have hp : 2 ^ (b + 1) ≤ 2 ^ i := Nat.pow_le_pow_right (by decide) hi
    have hq : 2 ^ (b + 1) = 2 * 2 ^ b := by rw [Nat.pow_succ, Nat.mul_comm]
    rw [Nat.testBit_lt_two_pow (show 2 ^ b + v < 2 ^ i by omega), Nat.testBit_lt_two_pow (show v < 2 ^ i by omega), decide_eq_false (by omega)]; rfl
theorem sizeF_add : ∀ (b k v : Nat), b < k → v < 2 ^ b → sizeF k ((2 ^ b + v : Nat) : Int) = sizeF k (v : Int) + 1
  | b, 0, v, h, _ => by omega
  | 0, k + 1, v, _, hv => by
    obtain rfl : v = 0 := by simpa using hv
    rw [sizeF, sizeF]
    show (1 : Int) % 2 + sizeF k (1 / 2) = (0 : Int) % 2 + sizeF k (0 / 2) + 1
    rw [show (1 : Int) / 2 = 0 from rfl, show (0 : Int) / 2 = 0 from rfl, sizeF_zero]; rfl
  | b + 1, k + 1, v, h, hv => by
    have hp : 2 ^ (b + 1) = 2 * 2 ^ b := by rw [Nat.pow_succ, Nat.mul_comm]
    have ih := sizeF_add b k (v / 2) (by omega) (by omega)
    rw [sizeF, sizeF]
    have e1 : ((2 ^ (b + 1) + v : Nat) : Int) / 2 = ((2 ^ b + v / 2 : Nat) : Int) := by omega
    have e2 : (v : Int) / 2 = ((v / 2 : Nat) : Int) := by omega
    have e3 : ((2 ^ (b + 1) + v : Nat) : Int) % 2 = (v : Int) % 2 := by omega
    rw [e1, e2, e3, ih]; omega
theorem popc_add {b v : Nat} (hb : b < 12) (hv : v < 2 ^ b) : popc ((2 ^ b + v : Nat) : Int) = popc (v : Int) + 1 := by
  have hp : 2 ^ (b + 1) ≤ 4096 := (by decide +kernel : ∀ k : Fin 12, 2 ^ (k.val + 1) ≤ 4096) ⟨b, hb⟩
  have hq : 2 ^ (b + 1) = 2 * 2 ^ b := by rw [Nat.pow_succ, Nat.mul_comm]
  rw [← sizeF_popc (by omega), ← sizeF_popc (by omega), sizeF_add b 12 v hb hv]
theorem popc_zero : popc (0 : Int) = 0 := by decide
theorem popc_le : ∀ (b v : Nat), b ≤ 12 → v < 2 ^ b → 0 ≤ popc (v : Int) ∧ popc (v : Int) ≤ b ∧ (popc (v : Int) = 0 → v = 0)
  | 0, v, _, hv => by
    obtain rfl : v = 0 := by simpa using hv
    exact ⟨by decide, by decide, fun _ => rfl⟩
  | b + 1, v, hb, hv => by
    have hq : 2 ^ (b + 1) = 2 * 2 ^ b := by rw [Nat.pow_succ, Nat.mul_comm]
    by_cases h : v < 2 ^ b
    · have := popc_le b v (by omega) h
      exact ⟨this.1, by omega, this.2.2⟩
    · obtain ⟨u, rfl⟩ : ∃ u, v = 2 ^ b + u := ⟨v - 2 ^ b, by omega⟩
      have := popc_le b u (by omega) (by omega)
      rw [popc_add (by omega) (by omega)]
      exact ⟨by omega, by omega, fun h => by omega⟩
theorem sizeF_mono : ∀ (j x y : Nat), (∀ i, i < j → y.testBit i = true → x.testBit i = true) → sizeF j (y : Int) ≤ sizeF j (x : Int) ∧ ∀ i, i < j → x.testBit i = true → y.testBit i = false → sizeF j (y : Int) < sizeF j (x : Int)
  | 0, x, y, _ => ⟨by rw [sizeF, sizeF]; omega, fun i hi => by omega⟩
  | j + 1, x, y, h => by
    have ih := sizeF_mono j (x / 2) (y / 2) (fun i hi hb => by
      have := h (i + 1) (by omega) (by rw [Nat.testBit_succ]; exact hb)
      rw [Nat.testBit_succ] at this; exact this)
    have h0 := h 0 (by omega)
    have t0 : ∀ x : Nat, x.testBit 0 = true ↔ x % 2 = 1 := fun x => by rw [Nat.testBit_zero, decide_eq_true_eq]
    rw [t0, t0] at h0
    rw [sizeF, sizeF]
    have e1 : (x : Int) / 2 = ((x / 2 : Nat) : Int) := by omega
    have e2 : (y : Int) / 2 = ((y / 2 : Nat) : Int) := by omega
    rw [e1, e2]
    generalize sizeF j ((x / 2 : Nat) : Int) = a at *
    generalize sizeF j ((y / 2 : Nat) : Int) = b at *
    refine ⟨by have := ih.1; omega, fun i hi hx hy => ?_⟩
    cases i with
    | zero =>
      have := ih.1
      rw [t0] at hx
      have : ¬ y % 2 = 1 := fun e => by rw [(t0 y).2 e] at hy; cases hy
      omega
    | succ i =>
      rw [Nat.testBit_succ] at hx hy
      have := ih.2 i (by omega) hx hy
      omega
theorem popc_mono {x y : Nat} (hx : x < 4096) (hy : y < 4096) (h : ∀ i, y.testBit i = true → x.testBit i = true) : popc (y : Int) ≤ popc (x : Int) := by
  have := (sizeF_mono 12 x y (fun i _ => h i)).1
  rwa [sizeF_popc (by omega), sizeF_popc (by omega)] at this
theorem popc_lt {x y : Nat} (hx : x < 4096) (hy : y < 4096) (h : ∀ i, y.testBit i = true → x.testBit i = true) {i : Nat} (hi : i < 12) (h1 : x.testBit i = true) (h2 : y.testBit i = false) : popc (y : Int) < popc (x : Int) := by
  have := (sizeF_mono 12 x y (fun i _ => h i)).2 i hi h1 h2
  rwa [sizeF_popc (by omega), sizeF_popc (by omega)] at this
/-- A set of some of all stars. -/
def Sub (v : Nat) (all : Int) : Prop := ∀ i, v.testBit i = true → setI all i = true
theorem or_above {T b : Nat} (hb : b < 12) (hT : T % 2 ^ (b + 1) = 0) (hT2 : T < 4096) : bits .or .i64 (T : Int) (wrap64 (2 ^ b)) = ((T + 2 ^ b : Nat) : Int) := by
  have hp : wrap64 (2 ^ b) = ((2 ^ b : Nat) : Int) := (by decide +kernel : ∀ k : Fin 12, wrap64 (2 ^ k.val) = ((2 ^ k.val : Nat) : Int)) ⟨b, hb⟩
  have hp2 : 1 ≤ 2 ^ b ∧ 2 ^ b < 4096 := (by decide +kernel : ∀ k : Fin 12, 1 ≤ 2 ^ k.val ∧ 2 ^ k.val < 4096) ⟨b, hb⟩
  unfold bits
  rw [hp]
  dsimp only
  have ho : T ||| 2 ^ b = T + 2 ^ b := by
    have e : T = 2 ^ (b + 1) * (T / 2 ^ (b + 1)) := by have := Nat.div_add_mod T (2 ^ (b + 1)); omega
    have hlt : 2 ^ b < 2 ^ (b + 1) := Nat.pow_lt_pow_right (by decide) (by omega)
    have := Nat.two_pow_add_eq_or_of_lt hlt (T / 2 ^ (b + 1))
    rw [← e] at this
    exact this.symm
  rw [BitVec.toNat_or, bv_nat (by omega), bv_nat (by omega), ho, i64_of_nat (by omega)]
theorem mod_half {T b : Nat} (hT : T % 2 ^ (b + 1) = 0) : T % 2 ^ b = 0 ∧ (T + 2 ^ b) % 2 ^ b = 0 := by
  have h : T % 2 ^ b = 0 := Nat.mod_eq_zero_of_dvd (Nat.dvd_trans (Nat.pow_dvd_pow 2 (by omega)) (Nat.dvd_of_mod_eq_zero hT))
  exact ⟨h, by rw [Nat.add_mod_right]; exact h⟩
theorem try_spec (ask : Int → Bool) (all : Int) : ∀ (b m T : Nat), b ≤ 10 → T % 2 ^ b = 0 → T + 2 ^ b ≤ 1024 →
    (∀ x, tryS ask all b (T : Int) m = some x → ∃ u, u < 2 ^ b ∧ Sub u all ∧ popc (u : Int) = m ∧ x = ((T + u : Nat) : Int) ∧ ask x = true ∧ ∀ v, v < 2 ^ b → Sub v all → popc (v : Int) = m → ask ((T + v : Nat) : Int) = true → u ≤ v) ∧
    (tryS ask all b (T : Int) m = none → ∀ v, v < 2 ^ b → Sub v all → popc (v : Int) = m → ask ((T + v : Nat) : Int) = false)
  | 0, m, T, _, _, _ => by
    have hv0 : ∀ v : Nat, v < 2 ^ 0 → v = 0 := fun v hv => by simpa using hv
    have hs0 : Sub 0 all := fun i h => by rw [Nat.zero_testBit] at h; cases h
    have hp0 : popc ((0 : Nat) : Int) = 0 := popc_zero
    rw [tryS]
    by_cases hm : m = 0
    · subst hm
      rw [if_pos rfl]
      cases ha : ask (T : Int)
      · refine ⟨fun x h => (by cases h), fun _ v hv _ _ => ?_⟩
        rw [hv0 v hv, Nat.add_zero]; exact ha
      · refine ⟨fun x h => ?_, fun h => (by cases h)⟩
        injection h with h
        subst h
        exact ⟨0, by decide, hs0, hp0, by rw [Nat.add_zero], ha, fun v _ _ _ _ => Nat.zero_le _⟩
    · rw [if_neg hm]
      refine ⟨fun x h => (by cases h), fun _ v hv _ hp => ?_⟩
      rw [hv0 v hv, hp0] at hp
      omega
  | b + 1, m, T, hb, hT, hT2 => by
    have hq : 2 ^ (b + 1) = 2 * 2 ^ b := by rw [Nat.pow_succ, Nat.mul_comm]
    have hs0 : Sub 0 all := fun i h => by rw [Nat.zero_testBit] at h; cases h
    have hp0 : popc ((0 : Nat) : Int) = 0 := popc_zero
    obtain ⟨hm1, hm2⟩ := mod_half hT
    have h1 := try_spec ask all b m T (by omega) hm1 (by omega)
    have h2 := try_spec ask all b (m - 1) (T + 2 ^ b) (by omega) hm2 (by omega)
    have hor := or_above (T := T) (b := b) (by omega) hT (by omega)
    rw [tryS]
    by_cases hm : m = 0
    · subst hm
      rw [if_pos rfl]
      have hz : ∀ v : Nat, v < 2 ^ (b + 1) → popc (v : Int) = ((0 : Nat) : Int) → v = 0 := fun v hv hp => (popc_le (b + 1) v (by omega) hv).2.2 hp
      cases ha : ask (T : Int)
      · refine ⟨fun x h => (by cases h), fun _ v hv _ hp => ?_⟩
        rw [hz v hv hp, Nat.add_zero]; exact ha
      · refine ⟨fun x h => ?_, fun h => (by cases h)⟩
        injection h with h
        subst h
        exact ⟨0, Nat.two_pow_pos _, hs0, hp0, by rw [Nat.add_zero], ha, fun v _ _ _ _ => Nat.zero_le _⟩
    rw [if_neg hm]
    by_cases hbm : b + 1 < m
    · rw [if_pos hbm]
      refine ⟨fun x h => (by cases h), fun _ v hv _ hp => ?_⟩
      have := (popc_le (b + 1) v (by omega) hv).2.1
      omega
    rw [if_neg hbm]
    cases h3 : tryS ask all b (T : Int) m with
    | some y =>
      obtain ⟨u, u1, u2, u3, u4, u5, u6⟩ := h1.1 y h3
      refine ⟨fun x h => ?_, fun h => (by cases h)⟩
      injection h with h
      subst h
      refine ⟨u, by omega, u2, u3, u4, u5, fun v hv v2 v3 v4 => ?_⟩
      by_cases hvb : v < 2 ^ b
      · exact u6 v hvb v2 v3 v4
      · omega
    | none =>
      have h1n := h1.2 h3
      dsimp only
      cases hal : setI all b
      · rw [if_neg (by simp)]
        refine ⟨fun x h => (by cases h), fun _ v hv v2 v3 => ?_⟩
        by_cases hvb : v < 2 ^ b
        · exact h1n v hvb v2 v3
        · obtain ⟨u, rfl⟩ : ∃ u, v = 2 ^ b + u := ⟨v - 2 ^ b, by omega⟩
          have := v2 b (by rw [test_add (by omega), decide_eq_true rfl]; rfl)
          rw [hal] at this; cases this
      · rw [if_pos rfl, hor]
        have hsp : ∀ u, u < 2 ^ b → (Sub (2 ^ b + u) all ↔ Sub u all) := fun u hu => by
          constructor
          · intro h i hi; exact h i (by rw [test_add hu, hi, Bool.or_true])
          · intro h i hi
            rw [test_add hu, Bool.or_eq_true, decide_eq_true_eq] at hi
            rcases hi with rfl | hi
            · exact hal
            · exact h i hi
        refine ⟨fun x h => ?_, fun h v hv v2 v3 => ?_⟩
        · obtain ⟨u, u1, u2, u3, u4, u5, u6⟩ := h2.1 x h
          refine ⟨2 ^ b + u, by omega, (hsp u u1).2 u2, by rw [popc_add (by omega) u1, u3]; omega, by rw [u4, Nat.add_assoc], u5, fun v hv v2 v3 v4 => ?_⟩
          by_cases hvb : v < 2 ^ b
          · rw [h1n v hvb v2 v3] at v4; cases v4
          · obtain ⟨z, rfl⟩ : ∃ z, v = 2 ^ b + z := ⟨v - 2 ^ b, by omega⟩
            rw [popc_add (by omega) (by omega)] at v3
            have := u6 z (by omega) ((hsp z (by omega)).1 v2) (by omega) (by rw [Nat.add_assoc]; exact v4)
            omega
        · by_cases hvb : v < 2 ^ b
          · exact h1n v hvb v2 v3
          · obtain ⟨z, rfl⟩ : ∃ z, v = 2 ^ b + z := ⟨v - 2 ^ b, by omega⟩
            rw [popc_add (by omega) (by omega)] at v3
            have := h2.2 h z (by omega) ((hsp z (by omega)).1 v2) (by omega)
            rw [← Nat.add_assoc]; exact this
/-- What the fewest stars that are as asked are. -/
structure Few (ask : Int → Bool) (all : Int) (u : Nat) : Prop where
  lt : u < 1024
  sub : Sub u all
  asks : ask (u : Int) = true
  least : ∀ v, v < 1024 → Sub v all → ask (v : Int) = true → popc (u : Int) < popc (v : Int) ∨ (popc (u : Int) = popc (v : Int) ∧ u ≤ v)
theorem fewTo_spec (ask : Int → Bool) (all : Int) : ∀ n : Nat, (∀ x, fewTo ask all n = some x → ∃ u : Nat, x = (u : Int) ∧ Few ask all u) ∧ (fewTo ask all n = none → ∀ v, v < 1024 → Sub v all → popc (v : Int) < n → ask (v : Int) = false)
  | 0 => ⟨fun x h => (by cases h), fun _ v hv _ hp => by have := (popc_le 10 v (by decide) hv).1; omega⟩
  | n + 1 => by
    have ih := fewTo_spec ask all n
    have ht := try_spec ask all 10 n 0 (by decide) (by decide) (by decide)
    rw [fewTo]
    cases h : fewTo ask all n with
    | some y =>
      refine ⟨fun x hx => ?_, fun hx => (by cases hx)⟩
      injection hx with hx
      subst hx
      exact ih.1 y h
    | none =>
      have hn := ih.2 h
      dsimp only
      refine ⟨fun x hx => ?_, fun hx v hv v2 v3 => ?_⟩
      · obtain ⟨u, u1, u2, u3, u4, u5, u6⟩ := ht.1 x hx
        rw [Nat.zero_add] at u4
        subst u4
        refine ⟨u, rfl, u1, u2, u5, fun v hv v2 v3 => ?_⟩
        rcases Int.lt_trichotomy (popc (u : Int)) (popc (v : Int)) with h1 | h1 | h1
        · exact .inl h1
        · exact .inr ⟨h1, u6 v hv v2 (by omega) (by rw [Nat.zero_add]; exact v3)⟩
        · rw [hn v hv v2 (by omega)] at v3; cases v3
      · by_cases hp : popc (v : Int) < n
        · exact hn v hv v2 hp
        · have := ht.2 hx v hv v2 (by omega)
          rwa [Nat.zero_add] at this
theorem few_is {ask : Int → Bool} {all : Nat} (hall : all < 4096) (h : ∃ v : Nat, v < 1024 ∧ Sub v (all : Int) ∧ ask (v : Int) = true) : ∃ u : Nat, fewS ask (all : Int) = (u : Int) ∧ Few ask (all : Int) u := by
  obtain ⟨v, v1, v2, v3⟩ := h
  have hs := fewTo_spec ask (all : Int) (popc (all : Int) + 1).toNat
  unfold fewS
  cases hf : fewTo ask (all : Int) (popc (all : Int) + 1).toNat with
  | some x =>
    obtain ⟨u, rfl, hu⟩ := hs.1 x hf
    exact ⟨u, rfl, hu⟩
  | none =>
    have hm := popc_mono (x := all) (y := v) hall (by omega) (fun i hi => by
      have h12 : i < 12 := by
        rcases Nat.lt_or_ge i 12 with h | h
        · exact h
        · rw [Nat.testBit_lt_two_pow (Nat.lt_of_lt_of_le v1 (Nat.le_trans (by decide : 1024 ≤ 2 ^ 12) (Nat.pow_le_pow_right (by decide) h)))] at hi; cases hi
      rw [← bit_nat hall h12]; exact v2 i hi)
    have hr := popc_rng (all : Int)
    rw [hs.2 hf v v1 v2 (by omega)] at v3; cases v3
theorem few_not {ask : Int → Bool} {all : Nat} (h : ∀ v : Nat, v < 1024 → Sub v (all : Int) → ask (v : Int) = false) : fewS ask (all : Int) = 0 := by
  have hs := fewTo_spec ask (all : Int) (popc (all : Int) + 1).toNat
  unfold fewS
  cases hf : fewTo ask (all : Int) (popc (all : Int) + 1).toNat with
  | none => rfl
  | some x =>
    obtain ⟨u, rfl, hu⟩ := hs.1 x hf
    exact absurd hu.asks (by rw [h u hu.lt hu.sub]; decide)
/-- Two questions with the same answers. -/
theorem few_same {ask ask' : Int → Bool} {all : Nat} (hall : all < 4096) (h : ∀ v : Nat, v < 1024 → Sub v (all : Int) → ask' (v : Int) = ask (v : Int)) : fewS ask' (all : Int) = fewS ask (all : Int) := by
  by_cases hx : ∃ v : Nat, v < 1024 ∧ Sub v (all : Int) ∧ ask (v : Int) = true
  · obtain ⟨u, e1, hu⟩ := few_is hall hx
    obtain ⟨v, v1, v2, v3⟩ := hx
    obtain ⟨u', e2, hu'⟩ := few_is (ask := ask') hall ⟨v, v1, v2, by rw [h v v1 v2]; exact v3⟩
    have a := hu.least u' hu'.lt hu'.sub (by rw [← h u' hu'.lt hu'.sub]; exact hu'.asks)
    have b := hu'.least u hu.lt hu.sub (by rw [h u hu.lt hu.sub]; exact hu.asks)
    rw [e1, e2]
    omega
  · have hn : ∀ v : Nat, v < 1024 → Sub v (all : Int) → ask (v : Int) = false := fun v v1 v2 => by
      cases e : ask (v : Int)
      · rfl
      · exact absurd ⟨v, v1, v2, e⟩ hx
    rw [few_not hn, few_not fun v v1 v2 => by rw [h v v1 v2]; exact hn v v1 v2]
theorem andNot_nat {a b : Nat} (ha : a < 4096) (hb : b < 1000000) : ∃ y : Nat, bits .andNot .i64 (a : Int) (b : Int) = (y : Int) ∧ y ≤ a ∧ ∀ i, y.testBit i = (a.testBit i && !b.testBit i) := by
  unfold bits
  dsimp only
  have e : (BitVec.ofInt IntKind.i64.bits (a : Int) &&& ~~~ BitVec.ofInt IntKind.i64.bits (b : Int)).toNat = a &&& (2 ^ 64 - (b + 1)) := by
    rw [BitVec.toNat_and, BitVec.toNat_not, bv_nat (by omega), bv_nat (by omega)]
    have h64 : 2 ^ IntKind.i64.bits - 1 - b = 2 ^ 64 - (b + 1) := by show 2 ^ 64 - 1 - b = _; omega
    rw [h64]
  have hle : a &&& (2 ^ 64 - (b + 1)) ≤ a := Nat.and_le_left
  refine ⟨a &&& (2 ^ 64 - (b + 1)), by rw [e, i64_of_nat (by omega)], hle, fun i => ?_⟩
  rw [Nat.testBit_and, Nat.testBit_two_pow_sub_succ (by omega)]
  by_cases hi : i < 64
  · rw [decide_eq_true hi]; simp
  · have : a.testBit i = false := Nat.testBit_lt_two_pow (Nat.lt_of_lt_of_le (show a < 2 ^ 64 by omega) (Nat.pow_le_pow_right (by decide) (by omega)))
    rw [this]; simp
/-- Whether stars can be right is asked of each of them alone. -/
theorem corn_ext {ss : List St} {sc : Int} {R R' : Nat → Bool} {n : Nat} (h : ∀ i, i < n → R i = R' i) (d : Bool) (c : Int) : CornC ss sc R n d c ↔ CornC ss sc R' n d c := by
  unfold CornC
  exact ⟨fun k => ⟨k.1, fun i hi hr => k.2 i hi (by rw [h i hi]; exact hr)⟩, fun k => ⟨k.1, fun i hi hr => k.2 i hi (by rw [← h i hi]; exact hr)⟩⟩
end Go.Proofs.YtdkegkacpdkjgaaGreat

namespace Go.Proofs.YtdkegkacpdkjgaaGreat
open Go.RowKit Go.Maps

def shV (δ : Bool → Int) (v : Value) : Value := .agg #[.int .i64 (numB v 0 + δ false), .int .i64 (numB v 1 + δ false), .int .i64 (numB v 2 + δ true), .int .i64 (numB v 3 + δ true)]
def shR (δ : Bool → Int) : Except Int Value → Except Int Value
  | .ok v => .ok (shV δ v)
  | .error c => .error c
theorem along_shift {δ : Bool → Int} {f g : Bool → Scl → Int × Int} {xs ys : List Scl} (h1 : ∀ d, ∀ x ∈ xs, (f d x).1 ≤ (f d x).2 → ∃ y ∈ ys, (g d y).1 = (f d x).1 + δ d ∧ (g d y).2 = (f d x).2 + δ d)
    (h2 : ∀ d, ∀ y ∈ ys, (g d y).1 ≤ (g d y).2 → ∃ x ∈ xs, (g d y).1 = (f d x).1 + δ d ∧ (g d y).2 = (f d x).2 + δ d) :
    alongR (kepL (g false) ys) (kepL (g true) ys) = shR δ (alongR (kepL (f false) xs) (kepL (f true) xs)) := by
  rw [kep_shift (h1 false) (h2 false), kep_shift (h1 true) (h2 true)]
  generalize kepL (f false) xs = k0
  generalize kepL (f true) xs = k1
  obtain ⟨a0, a1, a2⟩ := k0
  obtain ⟨b0, b1, b2⟩ := k1
  unfold alongR shR
  cases a2 <;> cases b2 <;> rfl
theorem along_same {f g : Bool → Scl → Int × Int} {xs ys : List Scl} (h1 : ∀ d, ∀ x ∈ xs, (f d x).1 ≤ (f d x).2 → ∃ y ∈ ys, g d y = f d x)
    (h2 : ∀ d, ∀ y ∈ ys, (g d y).1 ≤ (g d y).2 → ∃ x ∈ xs, g d y = f d x) :
    alongR (kepL (g false) ys) (kepL (g true) ys) = alongR (kepL (f false) xs) (kepL (f true) xs) := by
  rw [kep_same (h1 false) (h2 false), kep_same (h1 true) (h2 true)]
/-- Errors are not zero. -/
def noZ (r : Except Int Value) : Prop := ∀ c, r = .error c → c ≠ 0
theorem noZ_err {c : Int} (h : c ≠ 0) : noZ (.error c) := fun x e => by injection e with e; subst e; exact h
theorem noZ_ok (v : Value) : noZ (.ok v) := fun x e => by cases e
theorem along_noZ (k0 k1 : Int × Int × Bool) : noZ (alongR k0 k1) := by
  unfold alongR; (repeat' split) <;> first | exact noZ_ok _ | exact noZ_err (by decide)
theorem zero_noZ (p : Pl) (ss : List St) : noZ (zeroR p ss) := by unfold zeroR tellK; (repeat' split) <;> first | exact along_noZ _ _ | exact noZ_err (by decide)
theorem star_noZ (p : Pl) (ss : List St) (i : Int) : noZ (starR p ss i) := by unfold starR tellK; (repeat' split) <;> first | exact along_noZ _ _ | exact noZ_err (by decide)
theorem apart_noZ (p : Pl) (ss : List St) (i j : Int) : noZ (apartR p ss i j) := by unfold apartR tellR; (repeat' split) <;> first | exact along_noZ _ _ | exact noZ_err (by decide)
theorem find_noZ (p : Pl) (ss : List St) (i j : Int) : noZ (findR p ss i j) := by unfold findR tellK; (repeat' split) <;> first | exact along_noZ _ _ | exact noZ_err (by decide)
theorem scale_noZ (p : Pl) (ss : List St) : noZ (scaleR p ss) := by unfold scaleR scaleV; (repeat' split) <;> first | exact noZ_ok _ | exact noZ_err (by decide)
/-- Numbers of an answer are bounded. -/
def Bnd (M : Int) (r : Except Int Value) : Prop := ∀ v, r = .ok v → ∀ i, i < 4 → -M ≤ numB v i ∧ numB v i ≤ M
theorem bnd_err (M c : Int) : Bnd M (.error c) := fun v e => by cases e
theorem along_bnd {M : Int} {f : Bool → Scl → Int × Int} {xs : List Scl} (h : ∀ d, ∀ x ∈ xs, -M ≤ (f d x).1 ∧ (f d x).2 ≤ M) : Bnd M (alongR (kepL (f false) xs) (kepL (f true) xs)) := by
  have hk : ∀ d, (kepL (f d) xs).2.2 = true → (-M ≤ (kepL (f d) xs).1 ∧ (kepL (f d) xs).1 ≤ M) ∧ -M ≤ (kepL (f d) xs).2.1 ∧ (kepL (f d) xs).2.1 ≤ M := fun d ht => by
    obtain ⟨x, hx, hl, e1⟩ := (kepL_of (f d) xs).lo ht
    obtain ⟨y, hy, hm, e2⟩ := (kepL_of (f d) xs).hi ht
    have a := h d x hx
    have b := h d y hy
    omega
  intro v hv i hi
  unfold alongR at hv
  split at hv
  · rename_i h0
    split at hv
    · rename_i h1
      injection hv with hv
      subst hv
      have a := hk false h0
      have b := hk true h1
      have : i = 0 ∨ i = 1 ∨ i = 2 ∨ i = 3 := by omega
      rcases this with rfl | rfl | rfl | rfl
      · exact a.1
      · exact a.2
      · exact b.1
      · exact b.2
    · cases hv
  · cases hv
theorem zero_bnd {p : Pl} {ss : List St} (h : plB p ss = true → PlOk p ss) : Bnd 100000000 (zeroR p ss) := by
  unfold zeroR tellK
  split
  · rename_i hv
    repeat' split
    · exact bnd_err _ _
    · exact bnd_err _ _
    · exact along_bnd (f := fun d x => (x.lo d, x.hi d)) (xs := trA p ss) fun d x hx => by have a := (trL_ok (h hv) hx).lo d; have b := (trL_ok (h hv) hx).hi d; exact ⟨a.1, b.2⟩
  · exact bnd_err _ _
theorem star_bnd {p : Pl} {ss : List St} (h : plB p ss = true → PlOk p ss) (i : Int) : Bnd 200000000 (starR p ss i) := by
  unfold starR tellK
  split
  · rename_i hv
    split
    · rename_i hi
      repeat' split
      · exact bnd_err _ _
      · exact bnd_err _ _
      · refine along_bnd (f := fun d x => plS x.sc (x.lo d) (x.hi d) (ss.getD i.toNat default) d) (xs := trA p ss) fun d x hx => ?_
        have k := trL_ok (h hv) hx
        have hn := (h hv).nl
        have := pl_rng ((h hv).st i.toNat (by omega) d) (sc := x.sc) (by have := k.s0; omega) k.s1 (k.lo d) (k.hi d)
        exact ⟨by omega, by omega⟩
    · exact bnd_err _ _
  · exact bnd_err _ _
theorem plOk' {p : Pl} {ss : List St} (hn : ss.length = p.n) (hv : plB p ss = true) : PlOk p ss := by
  unfold plB at hv
  simp only [Bool.and_eq_true, decide_eq_true_eq, List.all_eq_true] at hv
  obtain ⟨⟨⟨⟨h1, h2⟩, h3⟩, h4⟩, h5⟩ := hv
  refine ⟨h1, h2, h3, h4, hn, fun i hi d => stOk (h5 _ ?_) d⟩
  have e : ss.getD i default = ss[i] := by simp [List.getD, hi]
  rw [e]; exact List.getElem_mem hi
/-- An answer that is farther on, in numbers. -/
theorem rep_shift {δ : Bool → Int} {M : Int} {r : Except Int Value} (h : isFour r) (hz : noZ r) (hb : Bnd M r) (hM : 0 ≤ M) : ∃ a b c d e a' b' c' d' : Int, repB r = .tuple #[.agg #[.int .i64 a, .int .i64 b], .agg #[.int .i64 c, .int .i64 d], .int .i64 e] ∧
    repB (shR δ r) = .tuple #[.agg #[.int .i64 a', .int .i64 b'], .agg #[.int .i64 c', .int .i64 d'], .int .i64 e] ∧ (e = 0 → a' = a + δ false ∧ b' = b + δ false ∧ c' = c + δ true ∧ d' = d + δ true) ∧
    ((-M ≤ a ∧ a ≤ M) ∧ (-M ≤ b ∧ b ≤ M) ∧ (-M ≤ c ∧ c ≤ M) ∧ (-M ≤ d ∧ d ≤ M)) := by
  cases r with
  | error c => exact ⟨0, 0, 0, 0, c, 0, 0, 0, 0, rfl, rfl, fun h => absurd h (hz c rfl), by omega⟩
  | ok v =>
    have hb := hb v rfl
    obtain ⟨a, b, c, d, rfl⟩ := h v rfl
    exact ⟨a, b, c, d, 0, a + δ false, b + δ false, c + δ true, d + δ true, rfl, rfl, fun _ => ⟨rfl, rfl, rfl, rfl⟩, hb 0 (by decide), hb 1 (by decide), hb 2 (by decide), hb 3 (by decide)⟩
section
variable {p p' : Pl} {ss : List St} {b t : Int}
/-- A plate whose known places are moved, and it before. -/
structure Mvd (p p' : Pl) (ss : List St) (b t : Int) : Prop where
  lo : p'.lo = p.lo
  hi : p'.hi = p.hi
  n : p'.n = p.n
  nl : ss.length = p.n
  v : plB p ss = true
  v' : plB p' (ss.map (movS b t)) = true
theorem Mvd.ok (h : Mvd p p' ss b t) : PlOk p ss := plOk' h.nl h.v
theorem Mvd.ok' (h : Mvd p p' ss b t) : PlOk p' (ss.map (movS b t)) := plOk' (by rw [List.length_map, h.nl, h.n]) h.v'
theorem Mvd.st (h : Mvd p p' ss b t) {i : Nat} (hi : i < p.n) (d : Bool) : StOk (movS b t (ss.getD i default)) d := by
  rw [← mov_get]; exact h.ok'.st i (by rw [List.length_map, h.nl]; exact hi) d
theorem mvd_corn (h : Mvd p p' ss b t) {set : Int} {i0 : Nat} (hi0 : i0 < p.n) (hk0 : (ss.getD i0 default).k = true) (hR0 : setI set i0 = true) (hsub : ∀ i, i < p.n → setI set i = true → (ss.getD i default).k = true)
    {sc : Int} (h1 : p.lo ≤ sc) (h2 : sc ≤ p.hi) (d : Bool) (c : Int) : CornC ss sc (setI set) p.n d c ↔ CornC (ss.map (movS b t)) sc (setI set) p.n d (c + dlt b t d) := by
  have ok := h.ok
  have hlo := ok.lo
  have hhi := ok.hi
  constructor
  · intro hc
    have hin : ∀ i, i < p.n → setI set i = true → (cbS sc (movS b t (ss.getD i default)) d).1 ≤ c + dlt b t d ∧ c + dlt b t d ≤ (cbS sc (movS b t (ss.getD i default)) d).2 := fun i hi hr => by
      have a := mov_cb (b := b) (t := t) (sc := sc) (hsub i hi hr) d
      have := hc.2 i hi hr
      omega
    have hn := near (h.st hi0 d) (by rw [mov_k]; exact hk0) (sc := sc) (by omega) (by omega)
    have := hin i0 hi0 hR0
    exact ⟨by omega, fun i hi hr => by rw [mov_get]; exact hin i hi hr⟩
  · intro hc
    have hin : ∀ i, i < p.n → setI set i = true → (cbS sc (ss.getD i default) d).1 ≤ c ∧ c ≤ (cbS sc (ss.getD i default) d).2 := fun i hi hr => by
      have a := mov_cb (b := b) (t := t) (sc := sc) (hsub i hi hr) d
      have := hc.2 i hi hr
      rw [mov_get] at this
      omega
    have hn := near (ok.st i0 (by rw [h.nl]; exact hi0) d) hk0 (sc := sc) (by omega) (by omega)
    have := hin i0 hi0 hR0
    exact ⟨by omega, hin⟩
theorem tr_same (e1 : p'.lo = p.lo) (e2 : p'.hi = p.hi) (e3 : p'.n = p.n) (ss : List St) (set : Int) : trL p' ss set = trL p ss set := by unfold trL; rw [e1, e2, e3]
theorem mvd_pair (h : Mvd p p' ss b t) (hk : knownTo ss p.n ≠ 0) : Pair (dlt b t) (trA p ss) (trA p' (ss.map (movS b t))) := by
  have ok := h.ok
  have h12 : p.n ≤ 12 := by have := ok.n10; omega
  obtain ⟨i0, hi0, hk0⟩ := known_some h12 hk
  unfold trA
  rw [mov_known, h.n]
  refine pair_of ok.lo ok.hi h.lo h.hi h.n fun sc h1 h2 d c => ?_
  exact mvd_corn h hi0 hk0 (by rw [known_bit ss h12 hi0]; exact hk0) (fun i hi hr => by rw [known_bit ss h12 hi] at hr; exact hr) h1 h2 d c
/-- Where the corner is, if a star is known. -/
theorem tr_near {p : Pl} {ss : List St} (ok : PlOk p ss) (hk : knownTo ss p.n ≠ 0) {x : Scl} (hx : x ∈ trA p ss) (d : Bool) : -1081344 ≤ x.lo d ∧ x.hi d ≤ 1048576 ∧ x.lo d ≤ x.hi d := by
  have h12 : p.n ≤ 12 := by have := ok.n10; omega
  obtain ⟨i0, hi0, hk0⟩ := known_some h12 hk
  obtain ⟨⟨h1, h2⟩, h3, h4⟩ := trL_of hx
  have hlo := ok.lo
  have hhi := ok.hi
  have hl : x.lo d = (corS ss x.sc (setI (knownTo ss p.n)) d p.n).1 := by rw [← h4 d]
  have hh : x.hi d = (corS ss x.sc (setI (knownTo ss p.n)) d p.n).2 := by rw [← h4 d]
  have hle : x.lo d ≤ x.hi d := by
    unfold corB at h3
    simp only [Bool.and_eq_true, decide_eq_true_eq] at h3
    cases d
    · omega
    · omega
  have a := cor_iff.1 (show _ ∧ x.lo d ≤ _ from ⟨by rw [hl]; exact Int.le_refl _, by rw [← hh]; exact hle⟩)
  have b := cor_iff.1 (show _ ≤ x.hi d ∧ _ from ⟨by rw [← hl]; exact hle, by rw [hh]; exact Int.le_refl _⟩)
  have hR0 : setI (knownTo ss p.n) i0 = true := by rw [known_bit ss h12 hi0]; exact hk0
  have c := corn_near a hi0 hR0 (ok.st i0 (by rw [ok.nl]; exact hi0) d) hk0 (by omega) (by omega)
  have e := corn_near b hi0 hR0 (ok.st i0 (by rw [ok.nl]; exact hi0) d) hk0 (by omega) (by omega)
  omega
theorem mvd_pl (h : Mvd p p' ss b t) (hk : knownTo ss p.n ≠ 0) {x y : Scl} (hx : x ∈ trA p ss) (hy : y ∈ trA p' (ss.map (movS b t))) (e : y.sc = x.sc) (hs : ∀ d, y.lo d = x.lo d + dlt b t d ∧ y.hi d = x.hi d + dlt b t d) {i : Nat} (hi : i < p.n) (d : Bool) :
    (plS y.sc (y.lo d) (y.hi d) (movS b t (ss.getD i default)) d).1 = (plS x.sc (x.lo d) (x.hi d) (ss.getD i default) d).1 + dlt b t d ∧ (plS y.sc (y.lo d) (y.hi d) (movS b t (ss.getD i default)) d).2 = (plS x.sc (x.lo d) (x.hi d) (ss.getD i default) d).2 + dlt b t d := by
  have ok := h.ok
  have n1 := tr_near ok hk hx d
  have n2 := tr_near h.ok' (by rw [h.n, mov_known]; exact hk) hy d
  have k := trL_ok ok hx
  have hb := bey_rng (ok.st i (by rw [ok.nl]; exact hi) d) (sc := x.sc) (by have := k.s0; omega) k.s1
  obtain ⟨s1, s2⟩ := hs d
  unfold plS
  rw [e, mov_bey, s1, s2]
  unfold saidS
  rw [mov_k]
  generalize ss.getD i default = s at *
  generalize beyS x.sc s d = z at *
  cases hsk : s.k
  · simp only [Bool.false_eq_true, if_false]
    omega
  · rw [mov_sky hsk]
    simp only [if_true]
    omega
theorem mvd_scale (h : Mvd p p' ss b t) : scaleR p' (ss.map (movS b t)) = scaleR p ss := by
  unfold scaleR
  rw [h.v, h.v', if_pos rfl, if_pos rfl]
  by_cases hk : knownTo ss p.n = 0
  · have e : ss.map (movS b t) = ss := mov_none (by rw [h.nl]; exact hk) (by have := h.ok.n10; have := h.nl; omega)
    have e2 : trA p' ss = trA p ss := by unfold trA; rw [h.n]; exact tr_same h.lo h.hi h.n ss _
    rw [e, e2]
  · have hp := mvd_pair h hk
    have e : kepL (scaleF false) (trA p' (ss.map (movS b t))) = kepL (scaleF false) (trA p ss) := kep_same
      (fun x hx _ => by obtain ⟨y, hy, e, _⟩ := hp.fwd x hx; exact ⟨y, hy, by unfold scaleF; rw [e]⟩)
      (fun y hy _ => by obtain ⟨x, hx, e, _⟩ := hp.bwd y hy; exact ⟨x, hx, by unfold scaleF; rw [e]⟩)
    rw [e]
    by_cases hn : trA p ss = []
    · rw [if_pos hn, if_pos ((pair_nil hp).1 hn)]
    · rw [if_neg hn, if_neg (fun hn' => hn ((pair_nil hp).2 hn'))]
/-- What is asked of all truths is farther on. -/
theorem mvd_tellK (h : Mvd p p' ss b t) {f g : Bool → Scl → Int × Int} {δ : Bool → Int}
    (hfg : knownTo ss p.n ≠ 0 → ∀ d, ∀ x ∈ trA p ss, ∀ y ∈ trA p' (ss.map (movS b t)), y.sc = x.sc → (∀ d, y.lo d = x.lo d + dlt b t d ∧ y.hi d = x.hi d + dlt b t d) → (g d y).1 = (f d x).1 + δ d ∧ (g d y).2 = (f d x).2 + δ d) :
    tellK p' (ss.map (movS b t)) g = shR δ (tellK p ss f) := by
  unfold tellK
  rw [mov_known, h.n]
  by_cases hk : knownTo ss p.n = 0
  · have e : ss.map (movS b t) = ss := mov_none (by rw [h.nl]; exact hk) (by have := h.ok.n10; have := h.nl; omega)
    have e2 : trA p' ss = trA p ss := by unfold trA; rw [h.n]; exact tr_same h.lo h.hi h.n ss _
    rw [e, e2]
    by_cases hn : trA p ss = []
    · rw [if_pos hn, if_pos hn]; rfl
    · rw [if_neg hn, if_neg hn, if_pos hk, if_pos hk]; rfl
  · have hp := mvd_pair h hk
    by_cases hn : trA p ss = []
    · rw [if_pos hn, if_pos ((pair_nil hp).1 hn)]; rfl
    · rw [if_neg hn, if_neg (fun hn' => hn ((pair_nil hp).2 hn')), if_neg hk, if_neg hk]
      exact along_shift (fun d x hx _ => by obtain ⟨y, hy, e, s⟩ := hp.fwd x hx; exact ⟨y, hy, hfg hk d x hx y hy e s⟩)
        (fun d y hy _ => by obtain ⟨x, hx, e, s⟩ := hp.bwd y hy; exact ⟨x, hx, hfg hk d x hx y hy e s⟩)
theorem shR_zero {r : Except Int Value} (h : isFour r) : shR (fun _ => 0) r = r := by
  cases r with
  | error c => rfl
  | ok v =>
    obtain ⟨a, b, c, d, rfl⟩ := h v rfl
    show Except.ok (Value.agg #[.int .i64 (a + 0), .int .i64 (b + 0), .int .i64 (c + 0), .int .i64 (d + 0)]) = _
    rw [Int.add_zero, Int.add_zero, Int.add_zero, Int.add_zero]
theorem mvd_zero (h : Mvd p p' ss b t) : zeroR p' (ss.map (movS b t)) = shR (dlt b t) (zeroR p ss) := by
  unfold zeroR
  rw [h.v, h.v', if_pos rfl, if_pos rfl]
  exact mvd_tellK h fun _ d x _ y _ _ s => s d
theorem mvd_star (h : Mvd p p' ss b t) (i : Int) : starR p' (ss.map (movS b t)) i = shR (dlt b t) (starR p ss i) := by
  unfold starR
  rw [h.v, h.v', if_pos rfl, if_pos rfl, h.n]
  by_cases hi : 0 ≤ i ∧ i < p.n
  · rw [if_pos hi, if_pos hi]
    refine mvd_tellK h fun hk d x hx y hy e s => ?_
    rw [mov_get]
    exact mvd_pl h hk hx hy e s (by omega) d
  · rw [if_neg hi, if_neg hi]; rfl
theorem mvd_apart (h : Mvd p p' ss b t) (i j : Int) : apartR p' (ss.map (movS b t)) i j = apartR p ss i j := by
  unfold apartR
  rw [h.v, h.v', if_pos rfl, if_pos rfl, h.n]
  by_cases hi : 0 ≤ i ∧ i < p.n
  · rw [if_pos hi, if_pos hi]
    by_cases hj : 0 ≤ j ∧ j < p.n
    · rw [if_pos hj, if_pos hj]
      unfold tellR
      by_cases hk : knownTo ss p.n = 0
      · have e : ss.map (movS b t) = ss := mov_none (by rw [h.nl]; exact hk) (by have := h.ok.n10; have := h.nl; omega)
        have e2 : trA p' ss = trA p ss := by unfold trA; rw [h.n]; exact tr_same h.lo h.hi h.n ss _
        rw [e, e2]
      · have hp := mvd_pair h hk
        have hf : ∀ d, ∀ x ∈ trA p ss, ∀ y ∈ trA p' (ss.map (movS b t)), y.sc = x.sc → (∀ d, y.lo d = x.lo d + dlt b t d ∧ y.hi d = x.hi d + dlt b t d) → apartF (ss.map (movS b t)) i.toNat j.toNat d y = apartF ss i.toNat j.toNat d x := fun d x hx y hy e s => by
          unfold apartF
          split
          · rfl
          · have a := mvd_pl h hk hx hy e s (i := i.toNat) (by omega) d
            have c := mvd_pl h hk hx hy e s (i := j.toNat) (by omega) d
            unfold apS
            rw [mov_get, mov_get, a.1, a.2, c.1, c.2, mov_bey, mov_bey, e]
            refine Prod.ext ?_ ?_ <;> dsimp only <;> omega
        by_cases hn : trA p ss = []
        · rw [if_pos hn, if_pos ((pair_nil hp).1 hn)]
        · rw [if_neg hn, if_neg (fun hn' => hn ((pair_nil hp).2 hn'))]
          exact along_same (fun d x hx _ => by obtain ⟨y, hy, e, s⟩ := hp.fwd x hx; exact ⟨y, hy, hf d x hx y hy e s⟩)
            (fun d y hy _ => by obtain ⟨x, hx, e, s⟩ := hp.bwd y hy; exact ⟨x, hx, hf d x hx y hy e s⟩)
    · rw [if_neg hj, if_neg hj]
  · rw [if_neg hi, if_neg hi]
theorem mvd_find (h : Mvd p p' ss b t) {e n : Int} (h1 : (skyB e e && skyB n n) = true) (h2 : (skyB (e + b) (e + b) && skyB (n + t) (n + t)) = true) : findR p' (ss.map (movS b t)) (e + b) (n + t) = findR p ss e n := by
  have hz : findR p' (ss.map (movS b t)) (e + b) (n + t) = shR (fun _ => 0) (findR p ss e n) := by
    unfold findR
    rw [h.v, h.v', if_pos rfl, if_pos rfl, h1, h2, if_pos rfl, if_pos rfl]
    refine mvd_tellK h fun hk d x hx y hy e s => ?_
    obtain ⟨s1, s2⟩ := s d
    unfold fiS
    rw [e, s1, s2]
    unfold soughtS dlt St.sky St.on
    cases d
    · simp only [Bool.false_eq_true, if_false]
      rw [show ∀ a b c : Int, a + b - (c + b) = a - c from fun a b c => by omega, show ∀ a b c : Int, a + b - (c + b) = a - c from fun a b c => by omega]
      omega
    · simp only [if_true]
      rw [show ∀ a b c : Int, a + b - (c + b) = a - c from fun a b c => by omega, show ∀ a b c : Int, a + b - (c + b) = a - c from fun a b c => by omega]
      omega
  rw [hz, shR_zero (find_four p ss e n)]
theorem sub_lt {v : Nat} {ss : List St} {n : Nat} (hn : n ≤ 12) (h : Sub v (knownTo ss n)) {i : Nat} (hi : v.testBit i = true) (h12 : i < 12) : i < n ∧ (ss.getD i default).k = true := by
  obtain ⟨a, e, h1, h2⟩ := known_nat ss n hn
  have hp : 2 ^ n ≤ 4096 := (by decide +kernel : ∀ k : Fin 13, 2 ^ k.val ≤ 4096) ⟨n, by omega⟩
  have := h i hi
  rw [e, bit_nat (by omega) h12, h2, Bool.and_eq_true, decide_eq_true_eq] at this
  exact this
theorem mvd_can (h : Mvd p p' ss b t) {v : Nat} (hv : v < 1024) (hs : Sub v (knownTo ss p.n)) : canR p' (ss.map (movS b t)) (v : Int) = canR p ss (v : Int) := by
  have ok := h.ok
  have h12 : p.n ≤ 12 := by have := ok.n10; omega
  have hb : ∀ i, i < p.n → setI (v : Int) i = v.testBit i := fun i hi => bit_nat (by omega) (by omega)
  by_cases hx : ∃ i, i < p.n ∧ setI (v : Int) i = true
  · obtain ⟨i0, hi0, hr0⟩ := hx
    have hk : ∀ i, i < p.n → setI (v : Int) i = true → (ss.getD i default).k = true := fun i hi hr => (sub_lt h12 hs (by rw [← hb i hi]; exact hr) (by omega)).2
    exact can_shift ok.lo ok.hi h.lo h.hi h.n fun sc h1 h2 d c => mvd_corn h hi0 (hk i0 hi0 hr0) hr0 hk h1 h2 d c
  · refine can_shift (δ := fun _ => 0) ok.lo ok.hi h.lo h.hi h.n fun sc h1 h2 d c => ?_
    unfold CornC
    rw [Int.add_zero]
    exact ⟨fun k => ⟨k.1, fun i hi hr => absurd ⟨i, hi, hr⟩ hx⟩, fun k => ⟨k.1, fun i hi hr => absurd ⟨i, hi, hr⟩ hx⟩⟩
theorem known_sub {ss : List St} {n a : Nat} (h12 : n ≤ 12) (e : knownTo ss n = (a : Int)) : Sub a (knownTo ss n) ∧ a < 2 ^ n := by
  obtain ⟨a', e', h1, h2⟩ := known_nat ss n h12
  obtain rfl : a' = a := by omega
  have hp : 2 ^ n ≤ 4096 := (by decide +kernel : ∀ k : Fin 13, 2 ^ k.val ≤ 4096) ⟨n, by omega⟩
  refine ⟨fun i hi => ?_, h1⟩
  have hi2 := hi
  rw [h2, Bool.and_eq_true, decide_eq_true_eq] at hi2
  rw [e, bit_nat (by omega) (by omega)]; exact hi
theorem mvd_clash (h : Mvd p p' ss b t) : clashR p' (ss.map (movS b t)) = clashR p ss := by
  have ok := h.ok
  have h12 : p.n ≤ 12 := by have := ok.n10; omega
  obtain ⟨a, e, _, _⟩ := known_nat ss p.n h12
  obtain ⟨hsub, halt⟩ := known_sub h12 e
  have h10 : 2 ^ p.n ≤ 1024 := (by decide +kernel : ∀ k : Fin 11, 2 ^ k.val ≤ 1024) ⟨p.n, by have := ok.n10; omega⟩
  unfold clashR
  rw [h.v, h.v', if_pos rfl, if_pos rfl, mov_known, h.n]
  have hc := fun v hv hs => mvd_can h (v := v) hv hs
  rw [e] at hc hsub ⊢
  rw [hc a (by omega) hsub, few_same (ask := clashF p ss) (ask' := clashF p' (ss.map (movS b t))) (by omega) fun v hv hs => by unfold clashF; rw [hc v hv hs]]
/-- What is found of a place that is moved: the place is none, or the same is found, or the moved place is none. -/
theorem find_facts (h : Mvd p p' ss b t) (e n : Int) {f0 f1 f2 f3 ef : Int} (hf : repB (findR p ss e n) = .tuple #[.agg #[.int .i64 f0, .int .i64 f1], .agg #[.int .i64 f2, .int .i64 f3], .int .i64 ef]) :
    ef = 2 ∨ ((-1048576 ≤ e ∧ e ≤ 1048576) ∧ (-1048576 ≤ n ∧ n ≤ 1048576) ∧ ∃ a b' c d eg, repB (findR p' (ss.map (movS b t)) (e + b) (n + t)) = .tuple #[.agg #[.int .i64 a, .int .i64 b'], .agg #[.int .i64 c, .int .i64 d], .int .i64 eg] ∧ (eg = 2 ∨ (a = f0 ∧ b' = f1 ∧ c = f2 ∧ d = f3 ∧ eg = ef))) := by
  have hz : ∀ {q : Pl} {xs : List St} {e n : Int}, plB q xs = true → (skyB e e && skyB n n) = false → findR q xs e n = .error 2 := fun hv hs => by unfold findR; rw [if_pos hv, hs]; rfl
  cases h1 : (skyB e e && skyB n n)
  · left
    rw [hz h.v h1] at hf
    have hf : Value.tuple #[.agg #[.int .i64 0, .int .i64 0], .agg #[.int .i64 0, .int .i64 0], .int .i64 2] = _ := hf
    simp at hf
    omega
  · right
    have h1' := h1
    unfold skyB at h1'
    simp only [Bool.and_eq_true, decide_eq_true_eq] at h1'
    refine ⟨by omega, by omega, ?_⟩
    cases h2 : (skyB (e + b) (e + b) && skyB (n + t) (n + t))
    · exact ⟨0, 0, 0, 0, 2, by rw [hz h.v' h2]; rfl, .inl rfl⟩
    · exact ⟨f0, f1, f2, f3, ef, by rw [mvd_find h h1 h2]; exact hf, .inr ⟨rfl, rfl, rfl, rfl, rfl⟩⟩
end
end Go.Proofs.YtdkegkacpdkjgaaGreat

namespace Go.Proofs.YtdkegkacpdkjgaaGreat
open Go.RowKit Go.Maps

section
variable {p z : Pl} {ss zs : List St}
/-- The second plate knows more than the first one. -/
structure Inc (p z : Pl) (ss zs : List St) : Prop where
  lo : p.lo ≤ z.lo
  hi : z.hi ≤ p.hi
  n : z.n = p.n
  nl : ss.length = p.n
  nl' : zs.length = p.n
  v : plB p ss = true
  v' : plB z zs = true
  on : ∀ i, i < p.n → ∀ d, ((ss.getD i default).on d).1 ≤ ((zs.getD i default).on d).1 ∧ ((zs.getD i default).on d).2 ≤ ((ss.getD i default).on d).2
  k : ∀ i, i < p.n → (ss.getD i default).k = true → (zs.getD i default).k = true
  sky : ∀ i, i < p.n → (ss.getD i default).k = true → ∀ d, ((ss.getD i default).sky d).1 ≤ ((zs.getD i default).sky d).1 ∧ ((zs.getD i default).sky d).2 ≤ ((ss.getD i default).sky d).2
theorem Inc.ok (h : Inc p z ss zs) : PlOk p ss := plOk' h.nl h.v
theorem Inc.ok' (h : Inc p z ss zs) : PlOk z zs := plOk' (by rw [h.nl', h.n]) h.v'
theorem Inc.h12 (h : Inc p z ss zs) : p.n ≤ 12 := by have := h.ok.n10; omega
theorem inc_bey (h : Inc p z ss zs) {i : Nat} (hi : i < p.n) (d : Bool) {sc : Int} (h0 : 0 ≤ sc) : (beyS sc (ss.getD i default) d).1 ≤ (beyS sc (zs.getD i default) d).1 ∧ (beyS sc (zs.getD i default) d).2 ≤ (beyS sc (ss.getD i default) d).2 := by
  obtain ⟨a, b⟩ := h.on i hi d
  have a' := Int.mul_le_mul_of_nonneg_left a h0
  have b' := Int.mul_le_mul_of_nonneg_left b h0
  unfold beyS
  dsimp only
  omega
theorem inc_said (h : Inc p z ss zs) {i : Nat} (hi : i < p.n) (d : Bool) : (saidS (ss.getD i default) d).1 ≤ (saidS (zs.getD i default) d).1 ∧ (saidS (zs.getD i default) d).2 ≤ (saidS (ss.getD i default) d).2 := by
  have a := said_rng (h.ok'.st i (by rw [h.nl']; exact hi) d)
  have hk := h.k i hi
  have hs := h.sky i hi
  generalize ss.getD i default = s at *
  generalize zs.getD i default = s' at *
  cases hsk : s.k
  · have e : saidS s d = (-67108864, 67108864) := by unfold saidS; rw [hsk]; rfl
    rw [e]; exact ⟨a.1, a.2.2⟩
  · have e : saidS s d = s.sky d := by unfold saidS; rw [hsk]; rfl
    have e' : saidS s' d = s'.sky d := by unfold saidS; rw [hk hsk]; rfl
    rw [e, e']; exact hs hsk d
theorem inc_corn (h : Inc p z ss zs) {S S' : Int} (hS : ∀ i, i < p.n → setI S i = true → setI S' i = true) {sc : Int} (h0 : 0 ≤ sc) {d : Bool} {c : Int} (hc : CornC zs sc (setI S') p.n d c) : CornC ss sc (setI S) p.n d c := by
  refine ⟨hc.1, fun i hi hr => ?_⟩
  have a := hc.2 i hi (hS i hi hr)
  have b := inc_bey h hi d h0
  have e := inc_said h hi d
  unfold cbS at *
  dsimp only at *
  omega
theorem inc_known (h : Inc p z ss zs) {i : Nat} (hi : i < p.n) (hr : setI (knownTo ss p.n) i = true) : setI (knownTo zs z.n) i = true := by
  have h12 := h.h12
  rw [h.n]
  rw [known_bit ss h12 hi] at hr
  rw [known_bit zs h12 hi]; exact h.k i hi hr
theorem inc_tr (h : Inc p z ss zs) {y : Scl} (hy : y ∈ trA z zs) : ∃ x ∈ trA p ss, x.sc = y.sc ∧ ∀ d, (x.lo d ≤ y.lo d ∧ y.hi d ≤ x.hi d) ∧ y.lo d ≤ y.hi d := by
  obtain ⟨⟨h1, h2⟩, h3, h4⟩ := trL_of hy
  have ok := h.ok
  have hlo := h.lo
  have hhi := h.hi
  have k0 := ok.lo
  have k1 := ok.hi
  rw [h.n] at h3 h4
  have hin : ∀ d c, CornC zs y.sc (setI (knownTo zs p.n)) p.n d c → CornC ss y.sc (setI (knownTo ss p.n)) p.n d c := fun d c hc => inc_corn h (fun i hi hr => by have := inc_known h hi hr; rwa [h.n] at this) (by omega) hc
  have hB : corB ss y.sc (setI (knownTo ss p.n)) p.n = true := by
    rw [corB_iff] at h3 ⊢
    intro d
    obtain ⟨c, hc⟩ := h3 d
    exact ⟨c, hin d c hc⟩
  obtain ⟨x, hx, x1, x2⟩ := trL_mk (p := p) (ss := ss) (set := knownTo ss p.n) k0 k1 (sc := y.sc) (by omega) (by omega) hB
  refine ⟨x, hx, x1, fun d => ?_⟩
  have a : y.lo d = (corS zs y.sc (setI (knownTo zs p.n)) d p.n).1 ∧ y.hi d = (corS zs y.sc (setI (knownTo zs p.n)) d p.n).2 := by rw [← h4 d]; exact ⟨rfl, rfl⟩
  have b : x.lo d = (corS ss y.sc (setI (knownTo ss p.n)) d p.n).1 ∧ x.hi d = (corS ss y.sc (setI (knownTo ss p.n)) d p.n).2 := by rw [← x2 d]; exact ⟨rfl, rfl⟩
  have hne := corB_ne h3 d
  have c1 := cor_iff.2 (hin d _ (cor_iff.1 ⟨Int.le_refl _, hne⟩))
  have c2 := cor_iff.2 (hin d _ (cor_iff.1 ⟨hne, Int.le_refl _⟩))
  omega
/-- Where the corner is, is within what each star allows. -/
structure TrOk (p : Pl) (ss : List St) (x : Scl) (d : Bool) : Prop where
  s0 : 1 ≤ x.sc
  s1 : x.sc ≤ 1000
  le : x.lo d ≤ x.hi d
  cb : ∀ i, i < p.n → (ss.getD i default).k = true → (cbS x.sc (ss.getD i default) d).1 ≤ x.lo d ∧ x.hi d ≤ (cbS x.sc (ss.getD i default) d).2
  far : (-1081344 ≤ x.lo d ∧ x.hi d ≤ 1048576) ∨ (x.lo d = -67108864 ∧ x.hi d = 67108864 ∧ ∀ i, i < p.n → (ss.getD i default).k = false)
theorem tr_ok {p : Pl} {ss : List St} (ok : PlOk p ss) {x : Scl} (hx : x ∈ trA p ss) (d : Bool) : TrOk p ss x d := by
  have h12 : p.n ≤ 12 := by have := ok.n10; omega
  have k := trL_ok ok hx
  obtain ⟨⟨h1, h2⟩, h3, h4⟩ := trL_of hx
  have a : x.lo d = (corS ss x.sc (setI (knownTo ss p.n)) d p.n).1 ∧ x.hi d = (corS ss x.sc (setI (knownTo ss p.n)) d p.n).2 := by rw [← h4 d]; exact ⟨rfl, rfl⟩
  have hne := corB_ne h3 d
  have c1 := cor_iff.1 (show _ ∧ _ from ⟨Int.le_refl (corS ss x.sc (setI (knownTo ss p.n)) d p.n).1, hne⟩)
  have c2 := cor_iff.1 (show _ ∧ _ from ⟨hne, Int.le_refl (corS ss x.sc (setI (knownTo ss p.n)) d p.n).2⟩)
  rw [← a.1] at c1
  rw [← a.2] at c2
  refine ⟨k.s0, k.s1, by omega, fun i hi hk => ?_, ?_⟩
  · have hr : setI (knownTo ss p.n) i = true := by rw [known_bit ss h12 hi]; exact hk
    exact ⟨(c1.2 i hi hr).1, (c2.2 i hi hr).2⟩
  · by_cases hk : knownTo ss p.n = 0
    · right
      have hn := (known_none h12).1 hk
      have hc : ∀ c, CornC ss x.sc (setI (knownTo ss p.n)) p.n d c ↔ -67108864 ≤ c ∧ c ≤ 67108864 := fun c =>
        ⟨fun h => h.1, fun h => ⟨h, fun i hi hr => by rw [known_bit ss h12 hi, hn i hi] at hr; cases hr⟩⟩
      have e1 := cor_iff.2 ((hc (-67108864)).2 (by omega))
      have e2 := cor_iff.2 ((hc 67108864).2 (by omega))
      exact ⟨by omega, by omega, hn⟩
    · left
      have := tr_near ok hk hx d
      exact ⟨this.1, this.2.1⟩
/-- A star is somewhere. -/
theorem pl_ne {p : Pl} {ss : List St} (ok : PlOk p ss) {x : Scl} (hx : x ∈ trA p ss) {i : Nat} (hi : i < p.n) (d : Bool) : (plS x.sc (x.lo d) (x.hi d) (ss.getD i default) d).1 ≤ (plS x.sc (x.lo d) (x.hi d) (ss.getD i default) d).2 := by
  have t := tr_ok ok hx d
  have hs := ok.st i (by rw [ok.nl]; exact hi) d
  have s0 := t.s0
  have b := bey_rng hs (sc := x.sc) (by omega) t.s1
  have sd := said_rng hs
  have le := t.le
  have cb := t.cb i hi
  have far := t.far
  unfold plS
  dsimp only
  cases hk : (ss.getD i default).k
  · have e : saidS (ss.getD i default) d = (-67108864, 67108864) := by unfold saidS; rw [hk]; rfl
    rw [e]
    dsimp only
    rcases far with f | f <;> omega
  · have := cb hk
    unfold cbS at this
    dsimp only at this
    omega
/-- Two stars are apart by something. -/
theorem ap_ne {p : Pl} {ss : List St} (ok : PlOk p ss) {x : Scl} (hx : x ∈ trA p ss) {i j : Nat} (hi : i < p.n) (hj : j < p.n) (d : Bool) : (apartF ss i j d x).1 ≤ (apartF ss i j d x).2 := by
  unfold apartF
  split
  · exact Int.le_refl _
  have t := tr_ok ok hx d
  have s0 := t.s0
  have bi := bey_rng (ok.st i (by rw [ok.nl]; exact hi) d) (sc := x.sc) (by omega) t.s1
  have bj := bey_rng (ok.st j (by rw [ok.nl]; exact hj) d) (sc := x.sc) (by omega) t.s1
  have si := said_rng (ok.st i (by rw [ok.nl]; exact hi) d)
  have sj := said_rng (ok.st j (by rw [ok.nl]; exact hj) d)
  have pi := pl_ne ok hx hi d
  have pj := pl_ne ok hx hj d
  have le := t.le
  have hci : (saidS (ss.getD i default) d).1 - (beyS x.sc (ss.getD i default) d).2 ≤ x.lo d ∧ x.hi d ≤ (saidS (ss.getD i default) d).2 - (beyS x.sc (ss.getD i default) d).1 ∨ (saidS (ss.getD i default) d = (-67108864, 67108864)) := by
    cases hk : (ss.getD i default).k
    · right; unfold saidS; rw [hk]; rfl
    · left; have := t.cb i hi hk; unfold cbS at this; exact this
  have hcj : (saidS (ss.getD j default) d).1 - (beyS x.sc (ss.getD j default) d).2 ≤ x.lo d ∧ x.hi d ≤ (saidS (ss.getD j default) d).2 - (beyS x.sc (ss.getD j default) d).1 ∨ (saidS (ss.getD j default) d = (-67108864, 67108864)) := by
    cases hk : (ss.getD j default).k
    · right; unfold saidS; rw [hk]; rfl
    · left; have := t.cb j hj hk; unfold cbS at this; exact this
  have far : (-1081344 ≤ x.lo d ∧ x.hi d ≤ 1048576) ∨ (x.lo d = -67108864 ∧ x.hi d = 67108864) := by
    rcases t.far with f | f
    · exact .inl f
    · exact .inr ⟨f.1, f.2.1⟩
  unfold apS plS at *
  dsimp only at *
  generalize beyS x.sc (ss.getD i default) d = B1 at *
  generalize beyS x.sc (ss.getD j default) d = B2 at *
  generalize saidS (ss.getD i default) d = S1 at *
  generalize saidS (ss.getD j default) d = S2 at *
  obtain ⟨b1, b2⟩ := B1
  obtain ⟨b3, b4⟩ := B2
  obtain ⟨s1, s2⟩ := S1
  obtain ⟨s3, s4⟩ := S2
  simp only [Prod.mk.injEq] at *
  generalize x.lo d = l at *
  generalize x.hi d = m at *
  clear t hx
  rcases far with f | f <;> rcases hci with c | c <;> rcases hcj with e | e <;> omega
theorem inc_pl (h : Inc p z ss zs) {x y : Scl} (e : x.sc = y.sc) (h0 : 0 ≤ y.sc) {d : Bool} (hd : x.lo d ≤ y.lo d ∧ y.hi d ≤ x.hi d) {i : Nat} (hi : i < p.n) :
    (plS x.sc (x.lo d) (x.hi d) (ss.getD i default) d).1 ≤ (plS y.sc (y.lo d) (y.hi d) (zs.getD i default) d).1 ∧ (plS y.sc (y.lo d) (y.hi d) (zs.getD i default) d).2 ≤ (plS x.sc (x.lo d) (x.hi d) (ss.getD i default) d).2 := by
  have b := inc_bey h hi d h0
  have s := inc_said h hi d
  unfold plS
  rw [e]
  dsimp only
  omega
theorem inc_ap (h : Inc p z ss zs) {x y : Scl} (e : x.sc = y.sc) (h0 : 0 ≤ y.sc) {d : Bool} (hd : x.lo d ≤ y.lo d ∧ y.hi d ≤ x.hi d) {i j : Nat} (hi : i < p.n) (hj : j < p.n) : (apartF ss i j d x).1 ≤ (apartF zs i j d y).1 ∧ (apartF zs i j d y).2 ≤ (apartF ss i j d x).2 := by
  unfold apartF
  by_cases hij : i = j
  · rw [if_pos hij, if_pos hij]; exact ⟨Int.le_refl _, Int.le_refl _⟩
  · rw [if_neg hij, if_neg hij]
    have a := inc_pl h e h0 hd hi
    have b := inc_pl h e h0 hd hj
    have c := inc_bey h hi d h0
    have f := inc_bey h hj d h0
    unfold apS
    dsimp only
    rw [e] at *
    omega
/-- An answer, and a narrower one. -/
def Narrow (r r' : Except Int Value) : Prop := ∀ v, r = .ok v → ∃ v', r' = .ok v' ∧ (numB v 0 ≤ numB v' 0 ∧ numB v' 1 ≤ numB v 1) ∧ numB v 2 ≤ numB v' 2 ∧ numB v' 3 ≤ numB v 3
theorem narrow_err (c : Int) (r' : Except Int Value) : Narrow (.error c) r' := fun v h => by cases h
theorem along_narrow {f g : Bool → Scl → Int × Int} {xs ys : List Scl} (hne : ys ≠ []) (hg : ∀ d, ∀ y ∈ ys, (g d y).1 ≤ (g d y).2) (h : ∀ d, ∀ y ∈ ys, ∃ x ∈ xs, (f d x).1 ≤ (g d y).1 ∧ (g d y).2 ≤ (f d x).2) :
    Narrow (alongR (kepL (f false) xs) (kepL (f true) xs)) (alongR (kepL (g false) ys) (kepL (g true) ys)) := by
  have ht : ∀ d, (kepL (g d) ys).2.2 = true := fun d => by
    cases ys with
    | nil => exact absurd rfl hne
    | cons y ys => exact ((kepL_of (g d) (y :: ys)).all y List.mem_cons_self (hg d y List.mem_cons_self)).1
  have k := fun d => kep_in (f := g d) (g := f d) (fun y hy _ => h d y hy) (ht d)
  intro v hv
  unfold alongR at hv ⊢
  rw [if_pos (k false).1, if_pos (k true).1] at hv
  rw [if_pos (ht false), if_pos (ht true)]
  injection hv with hv
  subst hv
  exact ⟨_, rfl, ⟨(k false).2.1, (k false).2.2⟩, (k true).2.1, (k true).2.2⟩
theorem inc_nil (h : Inc p z ss zs) (hz : trA z zs ≠ []) : trA p ss ≠ [] := by
  intro he
  cases hx : trA z zs with
  | nil => exact hz hx
  | cons y ys =>
    obtain ⟨x, hx', _⟩ := inc_tr h (y := y) (by rw [hx]; exact List.mem_cons_self)
    rw [he] at hx'; cases hx'
theorem inc_doubt (h : Inc p z ss zs) (hk : knownTo ss p.n ≠ 0) : knownTo zs z.n ≠ 0 := by
  obtain ⟨i, hi, k⟩ := known_some h.h12 hk
  intro hz
  rw [h.n] at hz
  have := (known_none h.h12).1 hz i hi
  rw [h.k i hi k] at this; cases this
/-- What the scale answers: an error, or a span. -/
theorem scale_cases {p : Pl} {ss : List St} (hv : plB p ss = true) : (trA p ss = [] ∧ scaleR p ss = .error 10) ∨ (trA p ss ≠ [] ∧ ∃ a b, scaleR p ss = .ok (.agg #[.int .i64 a, .int .i64 b]) ∧ (kepL (scaleF false) (trA p ss)) = (a, b, true)) := by
  unfold scaleR
  rw [if_pos hv]
  by_cases hn : trA p ss = []
  · rw [if_pos hn]; exact .inl ⟨hn, rfl⟩
  · rw [if_neg hn]
    right
    refine ⟨hn, ?_⟩
    have ht : (kepL (scaleF false) (trA p ss)).2.2 = true := by
      cases hx : trA p ss with
      | nil => exact absurd hx hn
      | cons y ys => exact ((kepL_of (scaleF false) (y :: ys)).all y List.mem_cons_self (Int.le_refl _)).1
    generalize kepL (scaleF false) (trA p ss) = k at *
    obtain ⟨a, b, t⟩ := k
    dsimp only at ht
    subst ht
    exact ⟨a, b, rfl, rfl⟩
theorem inc_scale (h : Inc p z ss zs) {a b a' b' : Int} (h1 : kepL (scaleF false) (trA p ss) = (a, b, true)) (h2 : kepL (scaleF false) (trA z zs) = (a', b', true)) : a ≤ a' ∧ b' ≤ b := by
  have k := kep_in (f := scaleF false) (g := scaleF false) (xs := trA z zs) (ys := trA p ss) (fun y hy _ => by
    obtain ⟨x, hx, e, _⟩ := inc_tr h hy
    exact ⟨x, hx, by unfold scaleF; rw [e]; exact ⟨Int.le_refl _, Int.le_refl _⟩⟩) (by rw [h2])
  rw [h1, h2] at k
  exact k.2
theorem inc_zero (h : Inc p z ss zs) (hz : trA z zs ≠ []) : Narrow (zeroR p ss) (zeroR z zs) := by
  unfold zeroR tellK
  rw [if_pos h.v, if_pos h.v', if_neg hz, if_neg (inc_nil h hz)]
  by_cases hk : knownTo ss p.n = 0
  · rw [if_pos hk]; exact narrow_err _ _
  · rw [if_neg hk, if_neg (inc_doubt h hk)]
    exact along_narrow (f := fun d x => (x.lo d, x.hi d)) (g := fun d x => (x.lo d, x.hi d)) hz (fun d y hy => (tr_ok h.ok' hy d).le) fun d y hy => by
      obtain ⟨x, hx, _, s⟩ := inc_tr h hy
      exact ⟨x, hx, (s d).1⟩
theorem inc_star (h : Inc p z ss zs) (hz : trA z zs ≠ []) (i : Int) : Narrow (starR p ss i) (starR z zs i) := by
  unfold starR tellK
  rw [if_pos h.v, if_pos h.v', if_neg hz, if_neg (inc_nil h hz), h.n]
  by_cases hi : 0 ≤ i ∧ i < p.n
  · rw [if_pos hi, if_pos hi]
    by_cases hk : knownTo ss p.n = 0
    · rw [if_pos hk]; exact narrow_err _ _
    · have hk' := inc_doubt h hk
      rw [h.n] at hk'
      rw [if_neg hk, if_neg hk']
      exact along_narrow (f := fun d x => plS x.sc (x.lo d) (x.hi d) (ss.getD i.toNat default) d) (g := fun d x => plS x.sc (x.lo d) (x.hi d) (zs.getD i.toNat default) d) hz (fun d y hy => pl_ne h.ok' hy (by rw [h.n]; omega) d) fun d y hy => by
        obtain ⟨x, hx, e, s⟩ := inc_tr h hy
        have := (trL_ok h.ok' hy).s0
        exact ⟨x, hx, inc_pl h e (by omega) (s d).1 (by omega)⟩
  · rw [if_neg hi]; exact narrow_err _ _
theorem inc_apart (h : Inc p z ss zs) (hz : trA z zs ≠ []) (i j : Int) : Narrow (apartR p ss i j) (apartR z zs i j) := by
  unfold apartR tellR
  rw [if_pos h.v, if_pos h.v', if_neg hz, if_neg (inc_nil h hz), h.n]
  by_cases hi : 0 ≤ i ∧ i < p.n
  · rw [if_pos hi, if_pos hi]
    by_cases hj : 0 ≤ j ∧ j < p.n
    · rw [if_pos hj, if_pos hj]
      exact along_narrow (f := apartF ss i.toNat j.toNat) (g := apartF zs i.toNat j.toNat) hz (fun d y hy => ap_ne h.ok' hy (by rw [h.n]; omega) (by rw [h.n]; omega) d) fun d y hy => by
        obtain ⟨x, hx, e, s⟩ := inc_tr h hy
        have := (trL_ok h.ok' hy).s0
        exact ⟨x, hx, inc_ap h e (by omega) (s d).1 (by omega) (by omega)⟩
    · rw [if_neg hj]; exact narrow_err _ _
  · rw [if_neg hi]; exact narrow_err _ _
/-- What Drop answers. -/
structure DrF (p : Pl) (ss : List St) (a u : Nat) : Prop where
  known : knownTo ss p.n = (a : Int)
  a10 : a < 2 ^ p.n ∧ a < 1024
  bit : ∀ i, a.testBit i = (decide (i < p.n) && (ss.getD i default).k)
  drop : dropR p ss = .ok (.int .i64 u)
  lt : u < 1024
  sub : ∀ i, u.testBit i = true → a.testBit i = true
  can : ∃ y : Nat, bits .andNot .i64 (a : Int) (u : Int) = (y : Int) ∧ y < 1024 ∧ (∀ i, y.testBit i = (a.testBit i && !u.testBit i)) ∧ canR p ss (y : Int) = true
  least : ∀ v : Nat, v < 1024 → (∀ i, v.testBit i = true → a.testBit i = true) → dropF p ss (v : Int) = true → popc (u : Int) < popc (v : Int) ∨ (popc (u : Int) = popc (v : Int) ∧ u ≤ v)
theorem can_none {p : Pl} {ss : List St} (ok : PlOk p ss) : canR p ss 0 = true := by
  have lo := ok.lo
  have mid := ok.mid
  refine (canR_iff ok.lo ok.hi).2 ⟨p.lo, ⟨Int.le_refl _, mid⟩, corB_iff.2 fun d => ⟨0, by omega, fun i hi hr => ?_⟩⟩
  have n10 := ok.n10
  have := bit_nat (n := 0) (i := i) (by decide) (by omega)
  rw [Nat.zero_testBit] at this
  rw [show ((0 : Nat) : Int) = 0 from rfl] at this
  rw [this] at hr; cases hr
theorem bit_lt {v i : Nat} (hv : v < 1024) (hi : v.testBit i = true) : i < 10 := by
  rcases Nat.lt_or_ge i 10 with h | h
  · exact h
  · rw [Nat.testBit_lt_two_pow (Nat.lt_of_lt_of_le hv (Nat.pow_le_pow_right (n := 2) (by decide) h))] at hi; cases hi
theorem sub_bits {v a : Nat} (hv : v < 1024) (ha : a < 1024) : Sub v (a : Int) ↔ ∀ i, v.testBit i = true → a.testBit i = true :=
  ⟨fun k i hi => by rw [← bit_nat (by omega) (by have := bit_lt hv hi; omega)]; exact k i hi, fun k i hi => by rw [bit_nat (by omega) (by have := bit_lt hv hi; omega)]; exact k i hi⟩
theorem drop_is {p : Pl} {ss : List St} (hn : ss.length = p.n) (hv : plB p ss = true) : ∃ a u, DrF p ss a u := by
  have ok := plOk' hn hv
  have n10 := ok.n10
  obtain ⟨a, e, a1, a2⟩ := known_nat ss p.n (by omega)
  have hp : 2 ^ p.n ≤ 1024 := (by decide +kernel : ∀ k : Fin 11, 2 ^ k.val ≤ 1024) ⟨p.n, by omega⟩
  have hf : dropF p ss (a : Int) = true := by
    unfold dropF
    rw [e]
    obtain ⟨y, g1, g2, g3⟩ := andNot_nat (a := a) (b := a) (by omega) (by omega)
    have : y = 0 := Nat.eq_of_testBit_eq fun i => by rw [g3, Nat.zero_testBit]; cases a.testBit i <;> rfl
    subst this
    rw [g1]; exact can_none ok
  obtain ⟨u, f1, f2⟩ := few_is (ask := dropF p ss) (all := a) (by omega) ⟨a, by omega, (sub_bits (by omega) (by omega)).2 (fun i h => h), hf⟩
  refine ⟨a, u, e, ⟨a1, by omega⟩, a2, by unfold dropR; rw [if_pos hv, e, f1], f2.lt, (sub_bits f2.lt (by omega)).1 f2.sub, ?_, fun v v1 v2 v3 => f2.least v v1 ((sub_bits v1 (by omega)).2 v2) v3⟩
  obtain ⟨y, g1, g2, g3⟩ := andNot_nat (a := a) (b := u) (by omega) (by have := f2.lt; omega)
  refine ⟨y, g1, by omega, g3, ?_⟩
  have := f2.asks
  unfold dropF at this
  rw [e, g1] at this; exact this
theorem inc_can (h : Inc p z ss zs) {v v' : Nat} (hv : v < 1024) (hv' : v' < 1024) (hs : ∀ i, v.testBit i = true → v'.testBit i = true) (hc : canR z zs (v' : Int) = true) : canR p ss (v : Int) = true := by
  have ok := h.ok
  have ok' := h.ok'
  have n10 := ok.n10
  obtain ⟨sc, h1, h2⟩ := (canR_iff ok'.lo ok'.hi).1 hc
  rw [h.n] at h2
  have a := h.lo
  have b := h.hi
  have c := ok.lo
  refine (canR_iff ok.lo ok.hi).2 ⟨sc, by omega, ?_⟩
  rw [corB_iff] at h2 ⊢
  intro d
  obtain ⟨c, hc⟩ := h2 d
  exact ⟨c, inc_corn h (fun i hi hr => by rw [bit_nat (by omega) (by omega)] at hr ⊢; exact hs i hr) (by omega) hc⟩
theorem inc_drop (h : Inc p z ss zs) {a u a' u' : Nat} (hd : DrF p ss a u) (hd' : DrF z zs a' u') : popc (u : Int) ≤ popc (u' : Int) := by
  have hle : u' &&& a ≤ a := Nat.and_le_right
  have ha := hd.a10.2
  have ha' := hd'.a10.2
  obtain ⟨y', g1', g2', g3', g4'⟩ := hd'.can
  obtain ⟨y, g1, g2, g3⟩ := andNot_nat (a := a) (b := u' &&& a) (by omega) (by omega)
  have hcan : canR p ss (y : Int) = true := inc_can h (v' := y') (by omega) g2' (fun i hi => by
    rw [g3, Nat.testBit_and] at hi
    rw [g3']
    have hai : a.testBit i = true := by cases e : a.testBit i; · rw [e] at hi; simp at hi
                                        · rfl
    rw [hai] at hi
    have hk := hai
    rw [hd.bit, Bool.and_eq_true, decide_eq_true_eq] at hk
    have : a'.testBit i = true := by rw [hd'.bit, h.n, decide_eq_true hk.1, h.k i hk.1 hk.2]; rfl
    rw [this]
    simpa using hi) g4'
  have := hd.least (u' &&& a) (by omega) (fun i hi => by rw [Nat.testBit_and, Bool.and_eq_true] at hi; exact hi.2) (by unfold dropF; rw [hd.known, g1]; exact hcan)
  have hm := popc_mono (x := u') (y := u' &&& a) (by have := hd'.lt; omega) (by omega) (fun i hi => by rw [Nat.testBit_and, Bool.and_eq_true] at hi; exact hi.1)
  omega
end
end Go.Proofs.YtdkegkacpdkjgaaGreat

namespace Go.Proofs.YtdkegkacpdkjgaaGreat
open Go.RowKit

/-- The least span with some spans. -/
structure HulOf (F : Nat → Int × Int) (n : Nat) (r : Int × Int) : Prop where
  lo : ∃ i, i < n ∧ r.1 = (F i).1
  hi : ∃ i, i < n ∧ r.2 = (F i).2
  all : ∀ i, i < n → r.1 ≤ (F i).1 ∧ (F i).2 ≤ r.2
theorem hul_one (F : Nat → Int × Int) : HulOf F 1 (F 0) := ⟨⟨0, by omega, rfl⟩, ⟨0, by omega, rfl⟩, fun i hi => by
  have e : i = 0 := by omega
  subst e
  exact ⟨Int.le_refl _, Int.le_refl _⟩⟩
theorem hul_step {F : Nat → Int × Int} {n : Nat} {r : Int × Int} (h : HulOf F n r) : HulOf F (n + 1) (min r.1 (F n).1, max r.2 (F n).2) := by
  obtain ⟨⟨i, hi, ei⟩, ⟨j, hj, ej⟩, al⟩ := h
  refine ⟨?_, ?_, fun k hk => ?_⟩
  · by_cases hc : r.1 ≤ (F n).1
    · exact ⟨i, by omega, by dsimp only; omega⟩
    · exact ⟨n, by omega, by dsimp only; omega⟩
  · by_cases hc : (F n).2 ≤ r.2
    · exact ⟨j, by omega, by dsimp only; omega⟩
    · exact ⟨n, by omega, by dsimp only; omega⟩
  · by_cases hc : k < n
    · have := al k hc
      dsimp only; omega
    · obtain rfl : k = n := by omega
      dsimp only; omega
theorem hl_of (f : Int → Int × Int) (L : List Int) : ∀ n, 0 < n → HulOf (fun i => f (L.getD i 0)) n (hl f L n)
  | 0, h => absurd h (by omega)
  | 1, _ => by
    have e : hl f L 1 = f (L.getD 0 0) := by unfold hl; simp
    rw [e]; exact hul_one _
  | n + 2, _ => by
    have ih := hul_step (hl_of f L (n + 1) (by omega))
    have e : ((((n + 1 : Nat)) : Int) == 0) = false := by rw [beq_eq_false_iff_ne]; omega
    rw [hl_step f L e]
    simpa using ih
theorem bt_of (G : Int → Int × Int) (lo : Int) : ∀ n, 0 < n → HulOf (fun i => G (lo + (i : Int))) n (btTo G lo n)
  | 0, h => absurd h (by omega)
  | 1, _ => by
    have e : btTo G lo 1 = G (lo + ((0 : Nat) : Int)) := by unfold btTo; simp
    rw [e]; exact hul_one (fun i : Nat => G (lo + (i : Int)))
  | n + 2, _ => by
    have ih := hul_step (bt_of G lo (n + 1) (by omega))
    have e : ((lo + (((n + 1 : Nat)) : Int)) == lo) = false := by rw [beq_eq_false_iff_ne]; omega
    unfold btTo
    rw [e]
    simpa using ih
/-- What is kept of all truths is the least span with what the scales tell. -/
theorem kep_hl {f : Scl → Int × Int} {g : Int → Int × Int} {xs : List Scl} {L : List Int} (hx : ∀ x ∈ xs, (f x).1 ≤ (f x).2) (h1 : ∀ x ∈ xs, ∃ i, i < L.length ∧ L.getD i 0 = x.sc)
    (h2 : ∀ i, i < L.length → ∃ x ∈ xs, x.sc = L.getD i 0) (hg : ∀ x ∈ xs, g x.sc = f x) (hne : 0 < L.length) : kepL f xs = ((hl g L L.length).1, (hl g L L.length).2, true) := by
  obtain ⟨⟨i, hi, ei⟩, ⟨j, hj, ej⟩, al⟩ := hl_of g L L.length hne
  obtain ⟨k1, k2, k3, k4⟩ := kepL_of f xs
  obtain ⟨x, hxm, hxs⟩ := h2 i hi
  obtain ⟨y, hym, hys⟩ := h2 j hj
  rw [← hxs, hg x hxm] at ei
  rw [← hys, hg y hym] at ej
  have a1 := k4 x hxm (hx x hxm)
  have a2 := k4 y hym (hx y hym)
  obtain ⟨u, hu, hul, eu⟩ := k2 a1.1
  obtain ⟨v, hv, hvl, ev⟩ := k3 a1.1
  obtain ⟨iu, hiu, eiu⟩ := h1 u hu
  obtain ⟨iv, hiv, eiv⟩ := h1 v hv
  have b1 := al iu hiu
  have b2 := al iv hiv
  rw [eiu, hg u hu] at b1
  rw [eiv, hg v hv] at b2
  generalize kepL f xs = k at *
  obtain ⟨l, m, t⟩ := k
  dsimp only at *
  rw [a1.1]
  have e1 : l = (hl g L L.length).1 := by omega
  have e2 : m = (hl g L L.length).2 := by omega
  rw [e1, e2]
theorem corS_congr {ss : List St} {sc : Int} {R R' : Nat → Bool} {d : Bool} : ∀ {k : Nat}, (∀ i, i < k → R i = R' i) → corS ss sc R d k = corS ss sc R' d k
  | 0, _ => rfl
  | k + 1, h => by
    unfold corS
    rw [h k (by omega), corS_congr fun i hi => h i (by omega)]
/-- The corner, as the reference has it, is that of the package, if a star is known. -/
theorem cr_cor {ss : List St} {sc : Int} {R : Nat → Bool} {d : Bool} (h0 : 0 ≤ sc) (h1 : sc ≤ 1000) (hs : ∀ i, i < ss.length → StOk (ss.getD i default) d) (hr : ∀ i, i < ss.length → R i = true → (ss.getD i default).k = true) : ∀ k, k ≤ ss.length →
    ((∀ i, i < k → R i = false) ∧ crR ss sc R d k = (-1099511627776, 1099511627776) ∧ corS ss sc R d k = (-67108864, 67108864)) ∨ ((∃ i, i < k ∧ R i = true) ∧ crR ss sc R d k = corS ss sc R d k)
  | 0, _ => .inl ⟨fun i hi => absurd hi (by omega), rfl, rfl⟩
  | k + 1, hk => by
    have ih := cr_cor h0 h1 hs hr k (by omega)
    cases hR : R k
    · have e1 : crR ss sc R d (k + 1) = crR ss sc R d k := by
        conv => lhs; unfold crR
        rw [hR]; rfl
      have e2 : corS ss sc R d (k + 1) = corS ss sc R d k := by
        conv => lhs; unfold corS
        rw [hR]; rfl
      rw [e1, e2]
      rcases ih with ⟨a, b, c⟩ | ⟨⟨i, hi, hi2⟩, b⟩
      · refine .inl ⟨fun i hi => ?_, b, c⟩
        by_cases h : i < k
        · exact a i h
        · obtain rfl : i = k := by omega
          exact hR
      · exact .inr ⟨⟨i, by omega, hi2⟩, b⟩
    · refine .inr ⟨⟨k, by omega, hR⟩, ?_⟩
      have kk := hr k (by omega) hR
      have ok := hs k (by omega)
      have oe := ok.e kk
      have of := ok.f kk
      have og := ok.g kk
      have b := bey_rng ok h0 h1
      have e1 : crR ss sc R d (k + 1) = (max (crR ss sc R d k).1 (((ss.getD k default).sky d).1 - (beyS sc (ss.getD k default) d).2), min (crR ss sc R d k).2 (((ss.getD k default).sky d).2 - (beyS sc (ss.getD k default) d).1)) := by
        conv => lhs; unfold crR
        rw [hR]; rfl
      have e2 : corS ss sc R d (k + 1) = (max (corS ss sc R d k).1 (((ss.getD k default).sky d).1 - (beyS sc (ss.getD k default) d).2), min (corS ss sc R d k).2 (((ss.getD k default).sky d).2 - (beyS sc (ss.getD k default) d).1)) := by
        conv => lhs; unfold corS
        rw [hR]
        unfold cbS saidS
        rw [kk]; rfl
      rw [e1, e2]
      rcases ih with ⟨_, a, c⟩ | ⟨_, c⟩
      · rw [a, c]
        dsimp only
        congr 1 <;> omega
      · rw [c]
section
variable {p : Pl} {ss : List St} {a : Nat}
theorem bit_a (K : KnO p ss a) {i : Nat} (hi : i < p.n) : setI (knownTo ss p.n) i = a.testBit i := by
  rw [K.e]
  exact bit_nat K.ok.lt (by have := K.ok.n; omega)
theorem cor_a (K : KnO p ss a) (sc : Int) (d : Bool) : corS ss sc (setI (knownTo ss p.n)) d p.n = corS ss sc a.testBit d p.n := corS_congr fun _ hi => bit_a K hi
theorem one_a (K : KnO p ss a) (h : a ≠ 0) : ∃ i, i < p.n ∧ a.testBit i = true := by
  obtain ⟨n', e, h1, h2⟩ := known_nat ss p.n K.ok.n
  have ea : n' = a := by
    have := K.e
    rw [e] at this
    omega
  subst ea
  refine Classical.byContradiction fun hno => h ?_
  refine Nat.eq_of_testBit_eq fun i => ?_
  rw [Nat.zero_testBit]
  cases hb : n'.testBit i
  · rfl
  · refine absurd ⟨i, ?_, hb⟩ hno
    rw [h2 i, Bool.and_eq_true] at hb
    simpa using hb.1
theorem cr_two (K : KnO p ss a) (ok : PlOk p ss) {sc : Int} (h0 : 1 ≤ sc) (h1 : sc ≤ 1000) (d : Bool) :
    (a = 0 ∧ crR ss sc a.testBit d p.n = (-1099511627776, 1099511627776) ∧ corS ss sc (setI (knownTo ss p.n)) d p.n = (-67108864, 67108864)) ∨ (a ≠ 0 ∧ crR ss sc a.testBit d p.n = corS ss sc (setI (knownTo ss p.n)) d p.n) := by
  rw [cor_a K]
  rcases cr_cor (ss := ss) (sc := sc) (R := a.testBit) (d := d) (by omega) h1 (fun i hi => K.ok.st i hi d) K.ok.k p.n (by rw [ok.nl]; exact Nat.le_refl _) with ⟨x, y, z⟩ | ⟨⟨i, hi, hb⟩, y⟩
  · by_cases ha : a = 0
    · exact .inl ⟨ha, y, z⟩
    · obtain ⟨i, hi, hb⟩ := one_a K ha
      rw [x i hi] at hb; cases hb
  · refine .inr ⟨fun h => ?_, y⟩
    rw [h, Nat.zero_testBit] at hb; cases hb
theorem crB_iff (K : KnO p ss a) (ok : PlOk p ss) {sc : Int} (h0 : 1 ≤ sc) (h1 : sc ≤ 1000) : crB ss sc a.testBit p.n = corB ss sc (setI (knownTo ss p.n)) p.n := by
  unfold crB corB
  have e : ∀ d, decide ((crR ss sc a.testBit d p.n).1 ≤ (crR ss sc a.testBit d p.n).2) = decide ((corS ss sc (setI (knownTo ss p.n)) d p.n).1 ≤ (corS ss sc (setI (knownTo ss p.n)) d p.n).2) := fun d => by
    rcases cr_two K ok h0 h1 d with ⟨_, x, y⟩ | ⟨_, x⟩
    · rw [x, y]; rfl
    · rw [x]
  rw [e false, e true]
theorem scTo_has' {B : Int → Bool} {lo x : Int} : ∀ {k : Nat}, lo ≤ x → x < lo + k → B x = true → x ∈ scTo B lo k
  | 0, h0, h1, _ => absurd h1 (by omega)
  | k + 1, h0, h1, hb => by
    unfold scTo
    by_cases h : x = lo + k
    · rw [← h, hb]; simp
    · have := scTo_has' (k := k) h0 (by omega) hb
      split
      · exact List.mem_append_left _ this
      · exact this
theorem get_of_mem {L : List Int} {x : Int} (h : x ∈ L) : ∃ i, i < L.length ∧ L.getD i 0 = x := by
  obtain ⟨i, hi, e⟩ := List.getElem_of_mem h
  exact ⟨i, hi, by rw [List.getD_eq_getElem?_getD, List.getElem?_eq_getElem hi]; exact e⟩
theorem mem_of_get {L : List Int} {i : Nat} (h : i < L.length) : L.getD i 0 ∈ L := by
  rw [List.getD_eq_getElem?_getD, List.getElem?_eq_getElem h]; exact List.getElem_mem h
theorem sc_of_tr (K : KnO p ss a) (ok : PlOk p ss) : ∀ x ∈ trA p ss, ∃ i, i < (scL p ss a).length ∧ (scL p ss a).getD i 0 = x.sc := fun x hx => by
  obtain ⟨⟨h1, h2⟩, h3, _⟩ := trL_of hx
  refine get_of_mem (scTo_has' h1 (by omega) ?_)
  rw [crB_iff K ok (by have := ok.lo; omega) (by have := ok.hi; omega)]
  exact h3
theorem tr_of_sc (K : KnO p ss a) (ok : PlOk p ss) : ∀ i, i < (scL p ss a).length → ∃ x ∈ trA p ss, x.sc = (scL p ss a).getD i 0 := fun i hi => by
  obtain ⟨h1, h2, h3⟩ := scTo_mem (mem_of_get hi)
  have l := ok.lo
  have h := ok.hi
  rw [crB_iff K ok (by omega) (by omega)] at h3
  obtain ⟨x, hx, e, _⟩ := trL_mk (p := p) (ss := ss) l h h1 (by omega) h3
  exact ⟨x, hx, e⟩
theorem sc_nil (K : KnO p ss a) (ok : PlOk p ss) : scL p ss a = [] ↔ trA p ss = [] := by
  constructor
  · intro h
    cases ht : trA p ss with
    | nil => rfl
    | cons x xs =>
      obtain ⟨i, hi, _⟩ := sc_of_tr K ok x (by rw [ht]; exact List.mem_cons_self)
      rw [h] at hi; simp at hi
  · intro h
    cases ht : scL p ss a with
    | nil => rfl
    | cons x xs =>
      obtain ⟨y, hy, _⟩ := tr_of_sc K ok 0 (by rw [ht]; simp)
      rw [h] at hy; cases hy
/-- What is kept of all truths, if each truth tells what its scale does. -/
theorem kep_sc (K : KnO p ss a) (ok : PlOk p ss) {f : Scl → Int × Int} {g : Int → Int × Int} (hx : ∀ x ∈ trA p ss, (f x).1 ≤ (f x).2) (hg : ∀ x ∈ trA p ss, g x.sc = f x) (hne : trA p ss ≠ []) :
    kepL f (trA p ss) = ((hl g (scL p ss a) (scL p ss a).length).1, (hl g (scL p ss a) (scL p ss a).length).2, true) :=
  kep_hl hx (sc_of_tr K ok) (tr_of_sc K ok) hg (List.length_pos_iff.2 fun h => hne ((sc_nil K ok).1 h))
theorem sc_sorted (B : Int → Bool) (lo : Int) : ∀ k, (scTo B lo k).Pairwise (· < ·)
  | 0 => List.Pairwise.nil
  | k + 1 => by
    have ih := sc_sorted B lo k
    unfold scTo
    split
    · refine List.pairwise_append.2 ⟨ih, List.pairwise_singleton _ _, fun x hx y hy => ?_⟩
      have := scTo_mem hx
      simp at hy
      omega
    · exact ih
theorem sc_le (p : Pl) (ss : List St) (a : Nat) {i j : Nat} (hij : i ≤ j) (hj : j < (scL p ss a).length) : (scL p ss a).getD i 0 ≤ (scL p ss a).getD j 0 := by
  by_cases h : i = j
  · subst h; exact Int.le_refl _
  · have := List.pairwise_iff_getElem.1 (sc_sorted (fun sc => crB ss sc a.testBit p.n) p.lo (p.hi + 1 - p.lo).toNat) i j (by show i < (scL p ss a).length; omega) hj (by omega)
    rw [List.getD_eq_getElem?_getD, List.getD_eq_getElem?_getD, List.getElem?_eq_getElem hj, List.getElem?_eq_getElem (by omega)]
    exact Int.le_of_lt this
end
end Go.Proofs.YtdkegkacpdkjgaaGreat

namespace Go.Proofs.YtdkegkacpdkjgaaGreat
open Go.RowKit

def tripV (r : (Int × Int) × (Int × Int) × Int) : Value := .tuple #[.agg #[.int .i64 r.1.1, .int .i64 r.1.2], .agg #[.int .i64 r.2.1.1, .int .i64 r.2.1.2], .int .i64 r.2.2]
theorem along_rep (a b c d : Int) : repB (alongR (a, b, true) (c, d, true)) = tripV ((a, b), (c, d), 0) := rfl
/-- Where a star can be with a scale and any corner. -/
theorem plcs_eq {s : St} {sc c0 c1 : Int} {d : Bool} (ok : StOk s d) (h0 : 0 ≤ sc) (h1 : sc ≤ 1000) (hc : c0 ≤ c1) (a0 : -1081344 ≤ c0) (a1 : c1 ≤ 1081344) :
    (min (plcR s sc c0 d).1 (plcR s sc c1 d).1, max (plcR s sc c0 d).2 (plcR s sc c1 d).2) = plS sc c0 c1 s d := by
  have b := bey_rng ok h0 h1
  unfold plcR plS saidS
  cases hk : s.k
  · simp only [Bool.false_eq_true, if_false]
    congr 1 <;> omega
  · simp only [if_true]
    congr 1 <;> omega
theorem plcR_max {s : St} {sc c : Int} {d : Bool} (ok : StOk s d) (h0 : 0 ≤ sc) (h1 : sc ≤ 1000) (a0 : -1081344 ≤ c) (a1 : c ≤ 1081344) :
    plcR s sc c d = (max (c + (beyS sc s d).1) (saidS s d).1, min (c + (beyS sc s d).2) (saidS s d).2) := by
  have b := bey_rng ok h0 h1
  unfold plcR saidS
  cases hk : s.k
  · simp only [Bool.false_eq_true, if_false]
    congr 1 <;> omega
  · simp only [if_true]
theorem low_at (c0 c1 b0 s0 b1 s1 : Int) (hc : c0 ≤ c1) : ∃ k, c0 ≤ k ∧ k ≤ c1 ∧ max (k + b0) s0 - min (k + b1) s1 = max (b0 - b1) (max s0 (c0 + b0) - min s1 (c1 + b1)) := by
  refine ⟨max c0 (min c1 (s0 - b0)), by omega, by omega, ?_⟩
  omega
theorem low_all (c0 c1 b0 s0 b1 s1 k : Int) (h0 : c0 ≤ k) (h1 : k ≤ c1) : max (b0 - b1) (max s0 (c0 + b0) - min s1 (c1 + b1)) ≤ max (k + b0) s0 - min (k + b1) s1 := by
  omega
theorem hul_eq {F : Nat → Int × Int} {n : Nat} {r : Int × Int} (h : HulOf F n r) {u v : Int} (h1 : ∃ i, i < n ∧ (F i).1 = u) (h2 : ∃ i, i < n ∧ (F i).2 = v) (h3 : ∀ i, i < n → u ≤ (F i).1 ∧ (F i).2 ≤ v) : r = (u, v) := by
  obtain ⟨⟨i, hi, ei⟩, ⟨j, hj, ej⟩, al⟩ := h
  obtain ⟨i', hi', ei'⟩ := h1
  obtain ⟨j', hj', ej'⟩ := h2
  have a1 := al i' hi'
  have a2 := al j' hj'
  have b1 := h3 i hi
  have b2 := h3 j hj
  obtain ⟨x, y⟩ := r
  dsimp only at *
  congr 1 <;> omega
/-- How far apart two stars can be with a scale and any corner. -/
theorem btw_ap {s t : St} {sc c0 c1 : Int} {d : Bool} (oks : StOk s d) (okt : StOk t d) (h0 : 0 ≤ sc) (h1 : sc ≤ 1000) (hc : c0 ≤ c1) (a0 : -1081344 ≤ c0) (a1 : c1 ≤ 1081344) :
    btTo (btG s t sc d) c0 (c1 + 1 - c0).toNat = apS sc c0 c1 s t d := by
  have hF : ∀ i : Nat, i < (c1 + 1 - c0).toNat → btG s t sc d (c0 + (i : Int)) = (max ((c0 + (i : Int)) + (beyS sc t d).1) (saidS t d).1 - min ((c0 + (i : Int)) + (beyS sc s d).2) (saidS s d).2, min ((c0 + (i : Int)) + (beyS sc t d).2) (saidS t d).2 - max ((c0 + (i : Int)) + (beyS sc s d).1) (saidS s d).1) := fun i hi => by
    unfold btG
    rw [plcR_max oks h0 h1 (by omega) (by omega), plcR_max okt h0 h1 (by omega) (by omega)]
  unfold apS
  refine hul_eq (bt_of (btG s t sc d) c0 _ (by omega)) ?_ ?_ ?_
  · obtain ⟨k, k0, k1, e⟩ := low_at c0 c1 (beyS sc t d).1 (saidS t d).1 (beyS sc s d).2 (saidS s d).2 hc
    refine ⟨(k - c0).toNat, by omega, ?_⟩
    rw [hF _ (by omega)]
    dsimp only [plS]
    rw [show c0 + (((k - c0).toNat : Nat) : Int) = k by omega]
    exact e
  · obtain ⟨k, k0, k1, e⟩ := low_at c0 c1 (beyS sc s d).1 (saidS s d).1 (beyS sc t d).2 (saidS t d).2 hc
    refine ⟨(k - c0).toNat, by omega, ?_⟩
    rw [hF _ (by omega)]
    dsimp only [plS]
    rw [show c0 + (((k - c0).toNat : Nat) : Int) = k by omega]
    omega
  · intro i hi
    have e := low_all c0 c1 (beyS sc t d).1 (saidS t d).1 (beyS sc s d).2 (saidS s d).2 (c0 + i) (by omega) (by omega)
    have f := low_all c0 c1 (beyS sc s d).1 (saidS s d).1 (beyS sc t d).2 (saidS t d).2 (c0 + i) (by omega) (by omega)
    rw [hF _ hi]
    dsimp only [plS]
    omega
section
variable {p : Pl} {ss : List St} {a : Nat}
theorem scale_eq (hk : plB p ss = true → KnO p ss a) (hok : plB p ss = true → PlOk p ss) : repS (scaleR p ss) = .tuple #[.agg #[.int .i64 (scaleRR p ss a).1, .int .i64 (scaleRR p ss a).2.1], .int .i64 (scaleRR p ss a).2.2] := by
  unfold scaleR scaleRR openR
  by_cases hv : plB p ss = true
  · rw [if_pos hv, if_pos hv, if_pos rfl]
    have K := hk hv
    have ok := hok hv
    by_cases hn : trA p ss = []
    · rw [if_pos hn, if_pos ((sc_nil K ok).2 hn)]
      rfl
    · have hs : ¬ scL p ss a = [] := fun h => hn ((sc_nil K ok).1 h)
      rw [if_neg hn, if_neg hs]
      dsimp only
      have hlen : 0 < (scL p ss a).length := List.length_pos_iff.2 hs
      obtain ⟨k1, k2, k3, k4⟩ := kepL_of (scaleF false) (trA p ss)
      obtain ⟨x, hx, ex⟩ := tr_of_sc K ok 0 hlen
      obtain ⟨y, hy, ey⟩ := tr_of_sc K ok ((scL p ss a).length - 1) (by omega)
      have a1 := k4 x hx (Int.le_refl _)
      have a2 := k4 y hy (Int.le_refl _)
      obtain ⟨u, hu, _, eu⟩ := k2 a1.1
      obtain ⟨v, hw, _, ev⟩ := k3 a1.1
      obtain ⟨iu, hiu, eiu⟩ := sc_of_tr K ok u hu
      obtain ⟨iv, hiv, eiv⟩ := sc_of_tr K ok v hw
      have b1 := sc_le p ss a (Nat.zero_le iu) hiu
      have b2 := sc_le p ss a (show iv ≤ (scL p ss a).length - 1 by omega) (by omega)
      generalize kepL (scaleF false) (trA p ss) = k at *
      obtain ⟨l, m, t⟩ := k
      unfold scaleF at *
      dsimp only at *
      rw [a1.1]
      unfold scaleV
      rw [if_pos rfl]
      have e1 : l = (scL p ss a).getD 0 0 := by omega
      have e2 : m = (scL p ss a).getD ((scL p ss a).length - 1) 0 := by omega
      rw [e1, e2]
      rfl
  · rw [if_neg hv, if_neg hv]
    rfl
theorem zero_known (K : KnO p ss a) : knownTo ss p.n = 0 ↔ a = 0 := by rw [K.e]; omega
/-- What needs a known star. -/
theorem tell_eq (K : KnO p ss a) (ok : PlOk p ss) {f : Bool → Scl → Int × Int} {g0 g1 : Int → Int × Int} (hx : ∀ d, ∀ x ∈ trA p ss, (f d x).1 ≤ (f d x).2)
    (hg : a ≠ 0 → ∀ x ∈ trA p ss, g0 x.sc = f false x ∧ g1 x.sc = f true x) (hv : plB p ss = true) : repB (tellK p ss f) = tripV (tupR (doubtR p ss a true) g0 g1) := by
  unfold tellK doubtR openR
  rw [if_pos hv, if_pos rfl]
  by_cases hn : trA p ss = []
  · rw [if_pos hn, if_pos ((sc_nil K ok).2 hn)]
    rfl
  · have hs : ¬ scL p ss a = [] := fun h => hn ((sc_nil K ok).1 h)
    rw [if_neg hn, if_neg hs]
    dsimp only
    by_cases ha : a = 0
    · rw [if_pos ((zero_known K).2 ha), if_pos ha]
      rfl
    · rw [if_neg (fun h => ha ((zero_known K).1 h)), if_neg ha]
      rw [kep_sc K ok (hx false) (fun x h => (hg ha x h).1) hn, kep_sc K ok (hx true) (fun x h => (hg ha x h).2) hn, along_rep]
      rfl
theorem tr_cr (K : KnO p ss a) (ok : PlOk p ss) (ha : a ≠ 0) {x : Scl} (hx : x ∈ trA p ss) (d : Bool) : crR ss x.sc a.testBit d p.n = (x.lo d, x.hi d) ∧ -1081344 ≤ x.lo d ∧ x.lo d ≤ x.hi d ∧ x.hi d ≤ 1081344 := by
  have t := tr_ok ok hx d
  obtain ⟨h1, h3, h4⟩ := trL_of hx
  refine ⟨?_, ?_, t.le, ?_⟩
  · rw [h4 d]
    rcases cr_two K ok t.s0 t.s1 d with ⟨h, _⟩ | ⟨_, h⟩
    · exact absurd h ha
    · exact h
  all_goals
    rcases t.far with h | ⟨_, _, h⟩
    · omega
    · obtain ⟨i, hi, hb⟩ := one_a K ha
      have hkk := K.ok.k i (by rw [ok.nl]; exact hi) hb
      have hf := h i hi
      rw [hkk] at hf
      cases hf
theorem zero_eq (hk : plB p ss = true → KnO p ss a) (hok : plB p ss = true → PlOk p ss) : repB (zeroR p ss) = tripV (zeroRR p ss a) := by
  unfold zeroR zeroRR
  by_cases hv : plB p ss = true
  · rw [if_pos hv]
    have K := hk hv
    have ok := hok hv
    refine tell_eq K ok (fun d x hx => (tr_ok ok hx d).le) (fun ha x hx => ⟨(tr_cr K ok ha hx false).1, (tr_cr K ok ha hx true).1⟩) hv
  · rw [if_neg hv]
    unfold doubtR openR
    rw [if_neg hv]
    rfl
theorem star_in (n : Int) (m : Nat) : (decide (0 ≤ n) && decide (n ≤ (m : Int) - 1)) = decide (0 ≤ n ∧ n < (m : Int)) := by
  rw [Bool.eq_iff_iff]
  simp
  omega
theorem star_eq (hk : plB p ss = true → KnO p ss a) (hok : plB p ss = true → PlOk p ss) (n : Int) : repB (starR p ss n) = tripV (starRR p ss a n) := by
  unfold starR starRR
  rw [star_in]
  by_cases hv : plB p ss = true
  · rw [if_pos hv]
    have K := hk hv
    have ok := hok hv
    by_cases hi : 0 ≤ n ∧ n < (p.n : Int)
    · rw [if_pos hi, decide_eq_true hi]
      have hn : n.toNat < p.n := by omega
      have key : ∀ d, a ≠ 0 → ∀ x ∈ trA p ss, plcs ss a p.n n.toNat d x.sc = plS x.sc (x.lo d) (x.hi d) (ss.getD n.toNat default) d := fun d ha x hx => by
        have t := tr_ok ok hx d
        obtain ⟨e, l1, l2, l3⟩ := tr_cr K ok ha hx d
        unfold plcs
        rw [e]
        exact plcs_eq (ok.st _ (by rw [ok.nl]; exact hn) d) (by have := t.s0; omega) t.s1 l2 l1 l3
      exact tell_eq K ok (fun d x hx => pl_ne ok hx hn d) (fun ha x hx => ⟨key false ha x hx, key true ha x hx⟩) hv
    · rw [if_neg hi, decide_eq_false hi]
      unfold doubtR openR
      rw [if_pos hv]
      rfl
  · rw [if_neg hv]
    unfold doubtR openR
    rw [if_neg hv]
    rfl
theorem apart_eq (hk : plB p ss = true → KnO p ss a) (hok : plB p ss = true → PlOk p ss) (m n : Int) : repB (apartR p ss m n) = tripV (apartRR p ss a m n) := by
  unfold apartR apartRR
  rw [star_in, star_in]
  unfold openR
  by_cases hv : plB p ss = true
  · rw [if_pos hv, if_pos hv]
    have K := hk hv
    have ok := hok hv
    by_cases hi : 0 ≤ m ∧ m < (p.n : Int)
    · rw [if_pos hi, decide_eq_true hi]
      by_cases hj : 0 ≤ n ∧ n < (p.n : Int)
      · rw [if_pos hj, decide_eq_true hj]
        rw [if_pos (show (true && true) = true from rfl)]
        unfold tellR
        by_cases hn : trA p ss = []
        · rw [if_pos hn, if_pos ((sc_nil K ok).2 hn)]
          rfl
        · have hs : ¬ scL p ss a = [] := fun h => hn ((sc_nil K ok).1 h)
          rw [if_neg hn, if_neg hs]
          dsimp only
          have hm' : m.toNat < p.n := by omega
          have hn' : n.toNat < p.n := by omega
          by_cases hmn : m = n
          · rw [if_pos hmn]
            have e : ∀ d, kepL (apartF ss m.toNat n.toNat d) (trA p ss) = (0, 0, true) := fun d => by
              have h := kep_sc (g := fun _ => (0, 0)) K ok (f := apartF ss m.toNat n.toNat d) (fun x hx => ap_ne ok hx hm' hn' d) (fun x hx => by unfold apartF; rw [hmn, if_pos rfl]) hn
              have hz : ∀ k, hl (fun _ => ((0, 0) : Int × Int)) (scL p ss a) k = (0, 0) := fun k => by
                induction k with
                | zero => rfl
                | succ k ih => unfold hl; rw [ih]; simp
              rw [hz] at h
              exact h
            rw [e, e]
            rfl
          · rw [if_neg hmn]
            have hmn' : ¬ m.toNat = n.toNat := by omega
            have key : ∀ d, ∀ x ∈ trA p ss, btw ss a p.n m.toNat n.toNat d x.sc = apartF ss m.toNat n.toNat d x := fun d x hx => by
              have t := tr_ok ok hx d
              have oks := ok.st m.toNat (by rw [ok.nl]; exact hm') d
              have okt := ok.st n.toNat (by rw [ok.nl]; exact hn') d
              unfold apartF btw
              rw [if_neg hmn']
              by_cases ha : a = 0
              · rw [if_pos ha]
                obtain ⟨h1, h3, h4⟩ := trL_of hx
                have hc : (x.lo d, x.hi d) = (-67108864, 67108864) := by
                  rw [h4 d]
                  rcases cr_two K ok t.s0 t.s1 d with ⟨_, _, h⟩ | ⟨h, _⟩
                  · exact h
                  · exact absurd ha h
                injection hc with e0 e1
                rw [e0, e1]
                have k0 : ∀ i, i < p.n → (ss.getD i default).k = false := fun i hi => by
                  have := bit_a K hi
                  rw [known_bit ss K.ok.n hi, ha, Nat.zero_testBit] at this
                  exact this
                have ks := k0 _ hm'
                have kt := k0 _ hn'
                generalize ss.getD m.toNat default = s at *
                generalize ss.getD n.toNat default = t' at *
                have b0 := bey_rng oks (sc := x.sc) (by have := t.s0; omega) t.s1
                have b1 := bey_rng okt (sc := x.sc) (by have := t.s0; omega) t.s1
                have e2 : btTo (btG s t' x.sc d) 0 1 = btG s t' x.sc d 0 := by unfold btTo; simp
                show btTo (btG s t' x.sc d) 0 1 = _
                rw [e2]
                unfold btG plcR apS plS saidS
                rw [ks, kt]
                simp only [Bool.false_eq_true, if_false]
                congr 1 <;> omega
              · rw [if_neg ha]
                obtain ⟨e, l1, l2, l3⟩ := tr_cr K ok ha hx d
                rw [e]
                exact btw_ap oks okt (by have := t.s0; omega) t.s1 l2 l1 l3
            rw [kep_sc K ok (fun x hx => ap_ne ok hx hm' hn' false) (key false) hn, kep_sc K ok (fun x hx => ap_ne ok hx hm' hn' true) (key true) hn, along_rep]
      · rw [if_neg hj, decide_eq_false hj]
        rfl
    · rw [if_neg hi, decide_eq_false hi]
      rfl
  · rw [if_neg hv, if_neg hv]
    rfl
end
end Go.Proofs.YtdkegkacpdkjgaaGreat

namespace Go.Proofs.YtdkegkacpdkjgaaGreat
open Go.RowKit

theorem max_five (ats : Array TypeId) (ty : TypeId) (a b c d e : Int) : ∃ v : Int, Builtin.max_ ats ty #[.int .i64 a, .int .i64 b, .int .i64 c, .int .i64 d, .int .i64 e] = pure (.int .i64 v) := ⟨_, rfl⟩
theorem stars_below {X X' : World} {a : Option Addr} {ss : List St} (h : StarsIn X a ss) (hb : Below X.heap.size X X') : StarsIn X' a ss :=
  h.elim .inl fun ⟨b, o, h1, h2, h3⟩ => .inr ⟨b, o, h1, Nat.lt_of_lt_of_le h2 hb.size, fun i hi => (h3 i hi).below hb h2⟩
def HeavyO (p : Pl) (w : World) (e : Ending) (w' : World) : Prop := ∃ b : Bool, e = .returned (.bool b) ∧ (b = false → p.n ≤ 30) ∧ Below w.heap.size w w'
set_option maxRecDepth 100000 in
set_option maxHeartbeats 8000000 in
theorem heavy_any (p : Pl) (ss : List St) (a b : Int) (w : World) (hnl : ss.length = p.n) (hst : StarsIn w p.a ss) : Calls Tryz.prog 6 #[p.val, .int .i64 a, .int .i64 b] w (HeavyO p w) := by
  unfold Pl.val
  obtain ⟨W0, hW0⟩ : ∃ X, w.alloc (.cells #[.int .i64 p.lo, .int .i64 p.hi, .slice p.a p.n p.cap] 26) = X := ⟨_, rfl⟩
  have hB0 : Below w.heap.size w W0 := by rw [← hW0]; exact newB _ _
  have hQ : BoxP W0 w.heap.size p := by rw [← hW0]; exact boxP_new w p _
  have HB0 := Lib.hid hB0
  have HQ := Lib.hid hQ
  obtain ⟨b0, b1, b2⟩ := id hQ
  clear hQ
  go_enter Tryz.func6, Tryz.ntmps6
  by_cases h30 : 30 < (p.n : Int)
  · go_wp2_with fail
    go_ret
    exact ⟨true, rfl, fun h => (by cases h), HB0.out⟩
  have h31 : p.n ≤ 30 := by omega
  have hm : PlAt p ss w := ⟨hnl, by omega, hst⟩
  have HP : Hid (∀ Y, Below w.heap.size w Y → Calls Tryz.prog 16 #[.agg #[.int .i64 p.lo, .int .i64 p.hi, .slice p.a p.n p.cap]] Y (Ret (.bool (plB p ss)) Y)) := fun Y hY => plateR_any p ss Y (hm.below hY (Nat.le_refl _))
  have hm1 := Lib.hid (hm.below HB0.out (Nat.le_refl _))
  clear hm hst
  go_wp2_with fail
  clear hW0 b0 b1 b2
  refine (HP.out W0 HB0.out).mono ?_
  rintro e W1 ⟨rfl, hx⟩
  obtain ⟨b0, b1, b2⟩ := HQ.out.grown hx
  cases hv : plB p ss
  · go_wp2_with fail
    go_ret
    exact ⟨false, rfl, fun _ => h31, BT HB0.out hx⟩
  have hpn0 : (0 : Int) ≤ (p.n : Int) := by omega
  go_wp2_with fail
  clear b0 b1 b2 hv
  go_loopw [20, 7] (fun i m wz => ∃ (k : Nat) (v : Int), k ≤ p.n ∧ i = .int .i64 k ∧ m = .int .i64 v ∧ Below W0.heap.size W0 wz) (fun i _ _ => p.n - (intOf i).toNat)
  case atStart => exact ⟨0, 0, by omega, rfl, rfl, hx⟩
  case round =>
    clear hx
    obtain ⟨k, v, hk, rfl, rfl, hB⟩ := hrel
    obtain ⟨wo, rfl⟩ : ∃ wo : World, wo = wr := ⟨_, rfl⟩
    have hk0 : (0 : Int) ≤ (k : Int) := by omega
    by_cases hlt : k < p.n
    · have hki : (k : Int) < (p.n : Int) := by omega
      obtain ⟨pb, po, hpa, hpb, hct⟩ := hm1.out.star (i := k) (by omega)
      obtain ⟨z0, z1, z2, z3, z4, z5, z6, z7, z8⟩ := hct.below hB hpb
      have hsn := StAt.new (ss.getD k default) 60 wo
      have hBn := BT hB (newB wo (.cells (ss.getD k default).cells 60))
      clear hct
      rw [hpa]
      generalize ss.getD k default = s at *
      unfold St.cells at hsn hBn
      go_upto_region 9 with fail
      generalize wo.alloc (.cells #[.int .i64 s.x0, .int .i64 s.x1, .int .i64 s.y0, .int .i64 s.y1, .bool s.k, .int .i64 s.e0, .int .i64 s.e1, .int .i64 s.n0, .int .i64 s.n1] 60) = Wn at *
      generalize wo.heap.size = G at *
      clear z0 z1 z2 z3 z4 z5 z6 z7 z8
      obtain ⟨y0, y1, y2, y3, y4, y5, y6, y7, y8⟩ := id hsn
      clear hsn
      cases hks : s.k
      · rw [hks] at y4
        go_wp2_with fail
        go_roundw
        case rel => exact ⟨k + 1, v, by omega, by go_num, rfl, hBn⟩
        case measure => simp [intOf]; omega
      · rw [hks] at y4
        obtain ⟨v5, hv5⟩ := max_five #[3, 3, 3, 3, 3] 3 v (wrap64 (s.x1 - s.x0)) (wrap64 (s.y1 - s.y0)) (wrap64 (s.e1 - s.e0)) (wrap64 (s.n1 - s.n0))
        go_wp2_with fail
        go_roundw
        case rel => exact ⟨k + 1, v5, by omega, by go_num, rfl, hBn⟩
        case measure => simp [intOf]; omega
    · obtain rfl : k = p.n := by omega
      obtain ⟨b0, b1, b2⟩ := HQ.out.grown hB
      have hfin := BT HB0.out hB
      by_cases hc : a < p.hi - p.lo
      · go_wp2_with fail
        all_goals (go_ret; exact ⟨_, rfl, fun _ => h31, hfin⟩)
      · go_wp2_with fail
        all_goals (go_ret; exact ⟨_, rfl, fun _ => h31, hfin⟩)
end Go.Proofs.YtdkegkacpdkjgaaGreat

namespace Go.Proofs.YtdkegkacpdkjgaaGreat
open Go.RowKit

theorem knO_of {p : Pl} {ss : List St} (hok : plB p ss = true → PlOk p ss) : ∃ a : Nat, plB p ss = true → KnO p ss a := by
  by_cases hv : plB p ss = true
  · have ok := hok hv
    have h12 : p.n ≤ 12 := by have := ok.n10; omega
    obtain ⟨a, e, h1, h2⟩ := known_nat ss p.n h12
    have hp : 2 ^ p.n ≤ 4096 := (by decide +kernel : ∀ k : Fin 13, 2 ^ k.val ≤ 4096) ⟨p.n, by omega⟩
    refine ⟨a, fun _ => ⟨e, ⟨fun i hi d => ok.st i hi d, h12, by omega, fun i hi hb => ?_⟩, ok.lo, ok.mid, ok.hi⟩⟩
    rw [h2, Bool.and_eq_true] at hb
    exact hb.2
  · exact ⟨0, fun h => absurd h hv⟩
set_option maxRecDepth 100000 in
set_option maxHeartbeats 16000000 in
theorem stars_walk (p : Pl) (ss : List St) (m n : Int) (w : World) (hnl : ss.length = p.n) (hst : StarsIn w p.a ss) :
    Calls Tryz.prog 3 #[p.val, .int .i64 m, .int .i64 n] w (Ret (.bool true) w) := by
  have hmf : ∀ (fn : Fn) (first cap : Array Value) (w : World), (Instr.makeFunc fn first cap).run Tryz.prog w = .ok (.func fn first cap) w := fun _ _ _ _ => rfl
  unfold Pl.val
  obtain ⟨W0, hW0⟩ : ∃ X, w.alloc (.cells #[.int .i64 p.lo, .int .i64 p.hi, .slice p.a p.n p.cap] 26) = X := ⟨_, rfl⟩
  have hBw : Below w.heap.size w W0 := by rw [← hW0]; exact newB _ _
  have hQ : BoxP W0 w.heap.size p := by rw [← hW0]; exact boxP_new w p _
  have hS := stars_below hst hBw
  clear hst
  have hB : Below W0.heap.size W0 W0 := Below.refl _ _
  go_enter Tryz.func3, Tryz.ntmps3
  obtain ⟨p0, p1, p2⟩ := id hQ
  go_wp2_with fail
  clear hW0 p0 p1 p2
  refine (heavy_any p ss 100 200 W0 hnl hS).mono ?_
  rintro e Y0 ⟨bh, rfl, h30, hx⟩
  replace hB := BT hB hx
  clear hx
  cases bh
  rotate_left
  · go_wp2_with fail
    refine (alive_any _).mono ?_
    rintro e wz ⟨rfl, hz⟩
    have hB := BT hB hz
    go_wp2_with fail
    go_ret
    exact ⟨rfl, hBw.trans (hB.mono hBw.size)⟩
  have h31 := h30 rfl
  clear h30
  have hm : PlAt p ss W0 := ⟨hnl, by omega, hS⟩
  have hok : plB p ss = true → PlOk p ss := fun h => plOk hm h
  obtain ⟨a, hk⟩ := knO_of hok
  have HT : Hid (BoxP W0 w.heap.size p ∧ PlAt p ss W0) := ⟨hQ, hm⟩
  obtain ⟨s0, s1, se, hrs⟩ := repS_eq (scaleR_two p ss)
  obtain ⟨za, zb, zc, zd, ze, hrz⟩ := repB_eq (zero_four p ss)
  obtain ⟨ta, tb, tc, td, te, hrt⟩ := repB_eq (star_four p ss m)
  obtain ⟨aa, ab, ac, ad, ae, hra⟩ := repB_eq (apart_four p ss m n)
  have HS : Hid (∀ Y, Below W0.heap.size W0 Y → Calls Tryz.prog 8 #[.agg #[.int .i64 p.lo, .int .i64 p.hi, .slice p.a p.n p.cap]] Y (Ret (.tuple #[.agg #[.int .i64 s0, .int .i64 s1], .int .i64 se]) Y)) := fun Y hY => by
    have h0 := scale_any p ss Y (HT.out.2.below hY (Nat.le_refl _))
    rw [hrs] at h0
    exact h0
  have HSR : Hid (∀ Y, Below W0.heap.size W0 Y → Calls Tryz.prog 9 #[.agg #[.int .i64 p.lo, .int .i64 p.hi, .slice p.a p.n p.cap]] Y (Ret (.tuple #[.agg #[.int .i64 s0, .int .i64 s1], .int .i64 se]) Y)) := fun Y hY => by
    have h0 := scaleRR_any p ss a Y (HT.out.2.below hY (Nat.le_refl _)) hk
    rw [← scale_eq hk hok, hrs] at h0
    exact h0
  have HZ : Hid (∀ Y, Below W0.heap.size W0 Y → Calls Tryz.prog 10 #[.agg #[.int .i64 p.lo, .int .i64 p.hi, .slice p.a p.n p.cap]] Y (Ret (.tuple #[.agg #[.int .i64 za, .int .i64 zb], .agg #[.int .i64 zc, .int .i64 zd], .int .i64 ze]) Y)) := fun Y hY => by
    have h0 := zero_any p ss Y (HT.out.2.below hY (Nat.le_refl _))
    rw [hrz] at h0
    exact h0
  have HZR : Hid (∀ Y, Below W0.heap.size W0 Y → Calls Tryz.prog 11 #[.agg #[.int .i64 p.lo, .int .i64 p.hi, .slice p.a p.n p.cap]] Y (Ret (.tuple #[.agg #[.int .i64 za, .int .i64 zb], .agg #[.int .i64 zc, .int .i64 zd], .int .i64 ze]) Y)) := fun Y hY => by
    have h0 := zeroRR_any p ss a Y (HT.out.2.below hY (Nat.le_refl _)) hk
    have h1 : Calls Tryz.prog 11 #[.agg #[.int .i64 p.lo, .int .i64 p.hi, .slice p.a p.n p.cap]] Y (Ret (tripV (zeroRR p ss a)) Y) := h0
    rw [← zero_eq hk hok, hrz] at h1
    exact h1
  have HA : Hid (∀ Y, Below W0.heap.size W0 Y → Calls Tryz.prog 12 #[.agg #[.int .i64 p.lo, .int .i64 p.hi, .slice p.a p.n p.cap], .int .i64 m] Y (Ret (.tuple #[.agg #[.int .i64 ta, .int .i64 tb], .agg #[.int .i64 tc, .int .i64 td], .int .i64 te]) Y)) := fun Y hY => by
    have h0 := star_any m p ss Y (HT.out.2.below hY (Nat.le_refl _))
    rw [hrt] at h0
    exact h0
  have HAR : Hid (∀ Y, Below W0.heap.size W0 Y → Calls Tryz.prog 13 #[.agg #[.int .i64 p.lo, .int .i64 p.hi, .slice p.a p.n p.cap], .int .i64 m] Y (Ret (.tuple #[.agg #[.int .i64 ta, .int .i64 tb], .agg #[.int .i64 tc, .int .i64 td], .int .i64 te]) Y)) := fun Y hY => by
    have h0 := starRR_any p ss a m Y (HT.out.2.below hY (Nat.le_refl _)) hk (by omega)
    have h1 : Calls Tryz.prog 13 #[.agg #[.int .i64 p.lo, .int .i64 p.hi, .slice p.a p.n p.cap], .int .i64 m] Y (Ret (tripV (starRR p ss a m)) Y) := h0
    rw [← star_eq hk hok m, hrt] at h1
    exact h1
  have HP : Hid (∀ Y, Below W0.heap.size W0 Y → Calls Tryz.prog 14 #[.agg #[.int .i64 p.lo, .int .i64 p.hi, .slice p.a p.n p.cap], .int .i64 m, .int .i64 n] Y (Ret (.tuple #[.agg #[.int .i64 aa, .int .i64 ab], .agg #[.int .i64 ac, .int .i64 ad], .int .i64 ae]) Y)) := fun Y hY => by
    have h0 := apart2_any m n p ss Y (HT.out.2.below hY (Nat.le_refl _))
    rw [hra] at h0
    exact h0
  have HPR : Hid (∀ Y, Below W0.heap.size W0 Y → Calls Tryz.prog 15 #[.agg #[.int .i64 p.lo, .int .i64 p.hi, .slice p.a p.n p.cap], .int .i64 m, .int .i64 n] Y (Ret (.tuple #[.agg #[.int .i64 aa, .int .i64 ab], .agg #[.int .i64 ac, .int .i64 ad], .int .i64 ae]) Y)) := fun Y hY => by
    have h0 := apartRR_any p ss a m n Y (HT.out.2.below hY (Nat.le_refl _)) hk (by omega)
    have h1 : Calls Tryz.prog 15 #[.agg #[.int .i64 p.lo, .int .i64 p.hi, .slice p.a p.n p.cap], .int .i64 m, .int .i64 n] Y (Ret (tripV (apartRR p ss a m n)) Y) := h0
    rw [← apart_eq hk hok m n, hra] at h1
    exact h1
  clear hrs hrz hrt hra hm hok hk hQ hS hnl
  obtain ⟨p0, p1, p2⟩ := HT.out.1.grown (hB)
  go_wp2_with fail
  clear p0 p1 p2
  refine (HS.out Y0 hB).mono ?_
  rintro e Y1 ⟨rfl, hx⟩
  replace hB := BT hB hx
  clear hx
  have hx : Below Y1.heap.size Y1 (Y1.alloc (.cells #[.int .i64 s0, .int .i64 s1] 23)) := newB _ _
  have xs : Spn2 (Y1.alloc (.cells #[.int .i64 s0, .int .i64 s1] 23)) Y1.heap.size s0 s1 := spn2_new _ _ _ _
  have hge1 : W0.heap.size ≤ Y1.heap.size := hB.size
  replace hB := BT hB hx
  clear hx
  obtain ⟨p0, p1, p2⟩ := HT.out.1.grown (hB)
  go_wp2_with fail
  generalize Y1.alloc (.cells #[.int .i64 s0, .int .i64 s1] 23) = Z1 at *
  generalize Y1.heap.size = B1 at *
  clear p0 p1 p2
  refine (HSR.out Z1 hB).mono ?_
  rintro e Y2 ⟨rfl, hx⟩
  replace xs := xs.grown hx
  replace hB := BT hB hx
  clear hx
  have hx : Below Y2.heap.size Y2 (Y2.alloc (.cells #[.int .i64 s0, .int .i64 s1] 23)) := newB _ _
  have xt : Spn2 (Y2.alloc (.cells #[.int .i64 s0, .int .i64 s1] 23)) Y2.heap.size s0 s1 := spn2_new _ _ _ _
  have hge2 : W0.heap.size ≤ Y2.heap.size := hB.size
  replace xs := xs.grown hx
  replace hB := BT hB hx
  clear hx
  obtain ⟨p0, p1, p2⟩ := HT.out.1.grown (hB)
  go_wp2_with fail
  generalize Y2.alloc (.cells #[.int .i64 s0, .int .i64 s1] 23) = Z2 at *
  generalize Y2.heap.size = B2 at *
  clear p0 p1 p2
  refine (HZ.out Z2 hB).mono ?_
  rintro e Y3 ⟨rfl, hx⟩
  replace xs := xs.grown hx
  replace xt := xt.grown hx
  replace hB := BT hB hx
  clear hx
  have hx : Below Y3.heap.size Y3 ((Y3.alloc (.cells #[.int .i64 za, .int .i64 zb] 23)).alloc (.cells #[.int .i64 zc, .int .i64 zd] 23)) := BA (newB _ _) _
  have xc : Spn2 ((Y3.alloc (.cells #[.int .i64 za, .int .i64 zb] 23)).alloc (.cells #[.int .i64 zc, .int .i64 zd] 23)) Y3.heap.size za zb := (spn2_new _ _ _ _).grown (newB _ _)
  have xd : Spn2 ((Y3.alloc (.cells #[.int .i64 za, .int .i64 zb] 23)).alloc (.cells #[.int .i64 zc, .int .i64 zd] 23)) (Y3.heap.size + 1) zc zd := by have := spn2_new (Y3.alloc (.cells #[.int .i64 za, .int .i64 zb] 23)) zc zd 23; rw [World.size_alloc] at this; exact this
  have hge3 : W0.heap.size ≤ Y3.heap.size := hB.size
  replace xs := xs.grown hx
  replace xt := xt.grown hx
  replace hB := BT hB hx
  clear hx
  obtain ⟨p0, p1, p2⟩ := HT.out.1.grown (hB)
  go_wp2_with fail
  generalize (Y3.alloc (.cells #[.int .i64 za, .int .i64 zb] 23)).alloc (.cells #[.int .i64 zc, .int .i64 zd] 23) = Z3 at *
  generalize Y3.heap.size = B3 at *
  clear p0 p1 p2
  refine (HZR.out Z3 hB).mono ?_
  rintro e Y4 ⟨rfl, hx⟩
  replace xs := xs.grown hx
  replace xt := xt.grown hx
  replace xc := xc.grown hx
  replace xd := xd.grown hx
  replace hB := BT hB hx
  clear hx
  have hx : Below Y4.heap.size Y4 ((Y4.alloc (.cells #[.int .i64 za, .int .i64 zb] 23)).alloc (.cells #[.int .i64 zc, .int .i64 zd] 23)) := BA (newB _ _) _
  have xu : Spn2 ((Y4.alloc (.cells #[.int .i64 za, .int .i64 zb] 23)).alloc (.cells #[.int .i64 zc, .int .i64 zd] 23)) Y4.heap.size za zb := (spn2_new _ _ _ _).grown (newB _ _)
  have xv : Spn2 ((Y4.alloc (.cells #[.int .i64 za, .int .i64 zb] 23)).alloc (.cells #[.int .i64 zc, .int .i64 zd] 23)) (Y4.heap.size + 1) zc zd := by have := spn2_new (Y4.alloc (.cells #[.int .i64 za, .int .i64 zb] 23)) zc zd 23; rw [World.size_alloc] at this; exact this
  have hge4 : W0.heap.size ≤ Y4.heap.size := hB.size
  replace xs := xs.grown hx
  replace xt := xt.grown hx
  replace xc := xc.grown hx
  replace xd := xd.grown hx
  replace hB := BT hB hx
  clear hx
  obtain ⟨p0, p1, p2⟩ := HT.out.1.grown (hB)
  go_wp2_with fail
  generalize (Y4.alloc (.cells #[.int .i64 za, .int .i64 zb] 23)).alloc (.cells #[.int .i64 zc, .int .i64 zd] 23) = Z4 at *
  generalize Y4.heap.size = B4 at *
  clear p0 p1 p2
  refine (HA.out Z4 hB).mono ?_
  rintro e Y5 ⟨rfl, hx⟩
  replace xs := xs.grown hx
  replace xt := xt.grown hx
  replace xc := xc.grown hx
  replace xd := xd.grown hx
  replace xu := xu.grown hx
  replace xv := xv.grown hx
  replace hB := BT hB hx
  clear hx
  have hx : Below Y5.heap.size Y5 ((Y5.alloc (.cells #[.int .i64 ta, .int .i64 tb] 23)).alloc (.cells #[.int .i64 tc, .int .i64 td] 23)) := BA (newB _ _) _
  have xm : Spn2 ((Y5.alloc (.cells #[.int .i64 ta, .int .i64 tb] 23)).alloc (.cells #[.int .i64 tc, .int .i64 td] 23)) Y5.heap.size ta tb := (spn2_new _ _ _ _).grown (newB _ _)
  have xn : Spn2 ((Y5.alloc (.cells #[.int .i64 ta, .int .i64 tb] 23)).alloc (.cells #[.int .i64 tc, .int .i64 td] 23)) (Y5.heap.size + 1) tc td := by have := spn2_new (Y5.alloc (.cells #[.int .i64 ta, .int .i64 tb] 23)) tc td 23; rw [World.size_alloc] at this; exact this
  have hge5 : W0.heap.size ≤ Y5.heap.size := hB.size
  replace xs := xs.grown hx
  replace xt := xt.grown hx
  replace xc := xc.grown hx
  replace xd := xd.grown hx
  replace xu := xu.grown hx
  replace xv := xv.grown hx
  replace hB := BT hB hx
  clear hx
  obtain ⟨p0, p1, p2⟩ := HT.out.1.grown (hB)
  go_wp2_with fail
  generalize (Y5.alloc (.cells #[.int .i64 ta, .int .i64 tb] 23)).alloc (.cells #[.int .i64 tc, .int .i64 td] 23) = Z5 at *
  generalize Y5.heap.size = B5 at *
  clear p0 p1 p2
  refine (HAR.out Z5 hB).mono ?_
  rintro e Y6 ⟨rfl, hx⟩
  replace xs := xs.grown hx
  replace xt := xt.grown hx
  replace xc := xc.grown hx
  replace xd := xd.grown hx
  replace xu := xu.grown hx
  replace xv := xv.grown hx
  replace xm := xm.grown hx
  replace xn := xn.grown hx
  replace hB := BT hB hx
  clear hx
  have hx : Below Y6.heap.size Y6 ((Y6.alloc (.cells #[.int .i64 ta, .int .i64 tb] 23)).alloc (.cells #[.int .i64 tc, .int .i64 td] 23)) := BA (newB _ _) _
  have xo : Spn2 ((Y6.alloc (.cells #[.int .i64 ta, .int .i64 tb] 23)).alloc (.cells #[.int .i64 tc, .int .i64 td] 23)) Y6.heap.size ta tb := (spn2_new _ _ _ _).grown (newB _ _)
  have xq : Spn2 ((Y6.alloc (.cells #[.int .i64 ta, .int .i64 tb] 23)).alloc (.cells #[.int .i64 tc, .int .i64 td] 23)) (Y6.heap.size + 1) tc td := by have := spn2_new (Y6.alloc (.cells #[.int .i64 ta, .int .i64 tb] 23)) tc td 23; rw [World.size_alloc] at this; exact this
  have hge6 : W0.heap.size ≤ Y6.heap.size := hB.size
  replace xs := xs.grown hx
  replace xt := xt.grown hx
  replace xc := xc.grown hx
  replace xd := xd.grown hx
  replace xu := xu.grown hx
  replace xv := xv.grown hx
  replace xm := xm.grown hx
  replace xn := xn.grown hx
  replace hB := BT hB hx
  clear hx
  obtain ⟨p0, p1, p2⟩ := HT.out.1.grown (hB)
  go_wp2_with fail
  generalize (Y6.alloc (.cells #[.int .i64 ta, .int .i64 tb] 23)).alloc (.cells #[.int .i64 tc, .int .i64 td] 23) = Z6 at *
  generalize Y6.heap.size = B6 at *
  clear p0 p1 p2
  refine (HP.out Z6 hB).mono ?_
  rintro e Y7 ⟨rfl, hx⟩
  replace xs := xs.grown hx
  replace xt := xt.grown hx
  replace xc := xc.grown hx
  replace xd := xd.grown hx
  replace xu := xu.grown hx
  replace xv := xv.grown hx
  replace xm := xm.grown hx
  replace xn := xn.grown hx
  replace xo := xo.grown hx
  replace xq := xq.grown hx
  replace hB := BT hB hx
  clear hx
  have hx : Below Y7.heap.size Y7 ((Y7.alloc (.cells #[.int .i64 aa, .int .i64 ab] 23)).alloc (.cells #[.int .i64 ac, .int .i64 ad] 23)) := BA (newB _ _) _
  have xr : Spn2 ((Y7.alloc (.cells #[.int .i64 aa, .int .i64 ab] 23)).alloc (.cells #[.int .i64 ac, .int .i64 ad] 23)) Y7.heap.size aa ab := (spn2_new _ _ _ _).grown (newB _ _)
  have xw : Spn2 ((Y7.alloc (.cells #[.int .i64 aa, .int .i64 ab] 23)).alloc (.cells #[.int .i64 ac, .int .i64 ad] 23)) (Y7.heap.size + 1) ac ad := by have := spn2_new (Y7.alloc (.cells #[.int .i64 aa, .int .i64 ab] 23)) ac ad 23; rw [World.size_alloc] at this; exact this
  have hge7 : W0.heap.size ≤ Y7.heap.size := hB.size
  replace xs := xs.grown hx
  replace xt := xt.grown hx
  replace xc := xc.grown hx
  replace xd := xd.grown hx
  replace xu := xu.grown hx
  replace xv := xv.grown hx
  replace xm := xm.grown hx
  replace xn := xn.grown hx
  replace xo := xo.grown hx
  replace xq := xq.grown hx
  replace hB := BT hB hx
  clear hx
  obtain ⟨p0, p1, p2⟩ := HT.out.1.grown (hB)
  go_wp2_with fail
  generalize (Y7.alloc (.cells #[.int .i64 aa, .int .i64 ab] 23)).alloc (.cells #[.int .i64 ac, .int .i64 ad] 23) = Z7 at *
  generalize Y7.heap.size = B7 at *
  clear p0 p1 p2
  refine (HPR.out Z7 hB).mono ?_
  rintro e Y8 ⟨rfl, hx⟩
  replace xs := xs.grown hx
  replace xt := xt.grown hx
  replace xc := xc.grown hx
  replace xd := xd.grown hx
  replace xu := xu.grown hx
  replace xv := xv.grown hx
  replace xm := xm.grown hx
  replace xn := xn.grown hx
  replace xo := xo.grown hx
  replace xq := xq.grown hx
  replace xr := xr.grown hx
  replace xw := xw.grown hx
  replace hB := BT hB hx
  clear hx
  have hx : Below Y8.heap.size Y8 ((Y8.alloc (.cells #[.int .i64 aa, .int .i64 ab] 23)).alloc (.cells #[.int .i64 ac, .int .i64 ad] 23)) := BA (newB _ _) _
  have xx : Spn2 ((Y8.alloc (.cells #[.int .i64 aa, .int .i64 ab] 23)).alloc (.cells #[.int .i64 ac, .int .i64 ad] 23)) Y8.heap.size aa ab := (spn2_new _ _ _ _).grown (newB _ _)
  have xy : Spn2 ((Y8.alloc (.cells #[.int .i64 aa, .int .i64 ab] 23)).alloc (.cells #[.int .i64 ac, .int .i64 ad] 23)) (Y8.heap.size + 1) ac ad := by have := spn2_new (Y8.alloc (.cells #[.int .i64 aa, .int .i64 ab] 23)) ac ad 23; rw [World.size_alloc] at this; exact this
  have hge8 : W0.heap.size ≤ Y8.heap.size := hB.size
  replace xs := xs.grown hx
  replace xt := xt.grown hx
  replace xc := xc.grown hx
  replace xd := xd.grown hx
  replace xu := xu.grown hx
  replace xv := xv.grown hx
  replace xm := xm.grown hx
  replace xn := xn.grown hx
  replace xo := xo.grown hx
  replace xq := xq.grown hx
  replace xr := xr.grown hx
  replace xw := xw.grown hx
  replace hB := BT hB hx
  clear hx
  go_upto_region 11 with fail
  generalize (Y8.alloc (.cells #[.int .i64 aa, .int .i64 ab] 23)).alloc (.cells #[.int .i64 ac, .int .i64 ad] 23) = Z8 at *
  generalize Y8.heap.size = B8 at *
  obtain ⟨xsc, xsd, -, -⟩ := id xs
  obtain ⟨xtc, xtd, -, -⟩ := id xt
  obtain ⟨xcc, xcd, -, -⟩ := id xc
  obtain ⟨xdc, xdd, -, -⟩ := id xd
  obtain ⟨xuc, xud, -, -⟩ := id xu
  obtain ⟨xvc, xvd, -, -⟩ := id xv
  obtain ⟨xmc, xmd, -, -⟩ := id xm
  obtain ⟨xnc, xnd, -, -⟩ := id xn
  obtain ⟨xoc, xod, -, -⟩ := id xo
  obtain ⟨xqc, xqd, -, -⟩ := id xq
  obtain ⟨xrc, xrd, -, -⟩ := id xr
  obtain ⟨xwc, xwd, -, -⟩ := id xw
  obtain ⟨xxc, xxd, -, -⟩ := id xx
  obtain ⟨xyc, xyd, -, -⟩ := id xy
  go_wp2_with fail
  clear xsc xsd xtc xtd xcc xcd xdc xdd xuc xud xvc xvd xmc xmd xnc xnd xoc xod xqc xqd xrc xrd xwc xwd xxc xxd xyc xyd
  refine (alive_any _).mono ?_
  rintro e wz ⟨rfl, hz⟩
  replace hB := BT hB hz
  go_wp2_with fail
  go_ret
  exact ⟨rfl, hBw.trans (hB.mono hBw.size)⟩
end Go.Proofs.YtdkegkacpdkjgaaGreat
