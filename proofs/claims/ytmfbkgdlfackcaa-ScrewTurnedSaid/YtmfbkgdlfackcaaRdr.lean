/- The reference: the fewest that must be wrong. -/
import Derived.Test.YtmfbkgdlfackcaaRcl
namespace Go.Proofs.Ytmfbkgdlfackcaa
open Fw Go.RowKit

def dropE (h : Hd) (xs : List (Int × Int)) (ss : List Sett) : Except Int Int := if validH h xs ss then .ok (bestD (canB h xs ss) ss.length (2 ^ ss.length)) else .error 1
theorem drop_same (h : Hd) (xs : List (Int × Int)) (ss : List Sett) : dropE h xs ss = dropA h xs ss := by
  unfold dropE dropA
  cases hv : validH h xs ss
  · rw [if_neg (by simp), if_neg (by simp)]
  · rw [if_pos rfl, if_pos rfl, drop_eq hv]
set_option maxRecDepth 100000 in
set_option maxHeartbeats 4000000 in
theorem drop_anyR (h : Hd) (xs : List (Int × Int)) (ss : List Sett) (w : World) (hm : HasM w h xs ss) (hn : xs.length ≤ 100) (hns : ss.length ≤ 100) :
    Calls Try.prog 27 #[h.val] w (Ret (replyI (dropE h xs ss)) w) := by
  have HM := Lib.hid hm
  have HNS := Lib.hid hm.ns
  have hC0 : Hid (BoxC (w.alloc (.cells #[.slice h.a h.n h.cap, .int .i64 h.eLo, .int .i64 h.eHi, .int .i64 h.images, .int .i64 h.sLo, .int .i64 h.sHi, .slice h.sa h.ns h.scap] 29)) w.heap.size h) := boxC_new w h
  have hW0 : Hid (Below w.heap.size w (w.alloc (.cells #[.slice h.a h.n h.cap, .int .i64 h.eLo, .int .i64 h.eHi, .int .i64 h.images, .int .i64 h.sLo, .int .i64 h.sHi, .slice h.sa h.ns h.scap] 29))) := newB _ _
  have hME := measureR_any h xs ss _ (hm.below (Nat.le_refl _) hW0.out) hn hns
  unfold Hd.val at hME
  have HE : Hid (∀ r, dropE h xs ss = r ↔ (if validH h xs ss then .ok (bestD (canB h xs ss) ss.length (2 ^ ss.length)) else .error 1) = r) := fun r => Iff.rfl
  have HV : Hid (validH h xs ss = true → h.ns ≤ 12) := fun hv => by rw [← hm.ns]; exact (valid_has hv).2.2.2.2.2.1
  have HCA : Hid (validH h xs ss = true → ∀ Y s, Below w.heap.size w Y → 0 ≤ s → s ≤ 4096 → Calls Try.prog 77 #[.agg #[.slice h.a h.n h.cap, .int .i64 h.eLo, .int .i64 h.eHi, .int .i64 h.images, .int .i64 h.sLo, .int .i64 h.sHi, .slice h.sa h.ns h.scap], .int .i64 s] Y (Ret (.bool (canB h xs ss s)) Y)) := fun hv Y s hY h1 h2 =>
    can_anyR h xs ss s Y (HM.out.below (Nat.le_refl _) hY) hv (by omega)
  generalize dropE h xs ss = R at *
  generalize canB h xs ss = c at *
  unfold Hd.val
  clear hm
  go_enter Try.func27, Try.ntmps27
  obtain ⟨c0, c1, c2, c3, c4, c5, c6⟩ := hC0.out
  go_wp2_with fail
  generalize hBw : w.heap.size = B at hC0 c0 c1 c2 c3 c4 c5 c6 ⊢
  generalize w.alloc (.cells #[.slice h.a h.n h.cap, .int .i64 h.eLo, .int .i64 h.eHi, .int .i64 h.images, .int .i64 h.sLo, .int .i64 h.sHi, .slice h.sa h.ns h.scap] 29) = W at *
  clear hBw
  refine hME.mono ?_
  rintro e w1 ⟨rfl, hb1⟩
  have hC1 := Lib.hid (hC0.out.grown hb1)
  have hW1 := BT hW0.out hb1
  clear hC0 hW0 hb1 hME c0 c1 c2 c3 c4 c5 c6
  cases hv : validH h xs ss
  · have HR : Hid (R = .error 1) := ((HE.out R).1 rfl).symm.trans (by rw [hv]; rfl)
    clear hv
    go_wp2
    exact bodyPost_ret (v := .tuple #[.int .i64 0, .int .i64 1]) (by simp [results, Try.results27, go_sem]) rfl ⟨by rw [HR.out]; rfl, by (repeat (first | assumption | exact Below.refl _ _ | refine BA ?_ _ | refine BC ?_ _ _ (by omega) _ | refine Below.drew ?_ | refine BT ?_ (by assumption)))⟩
  have hn12 := HV.out hv
  have HCA1 := Lib.hid (HCA.out hv)
  obtain ⟨p1, p2, p3⟩ := pow_12 hn12
  obtain ⟨N, hN⟩ : ∃ N : Nat, 2 ^ h.ns = N + 1 := ⟨2 ^ h.ns - 1, by omega⟩
  have hN1 : N ≤ 4095 := by omega
  have HP : Hid ((2 : Int) ^ h.ns - 1 = (N : Int)) := by show _ = _; omega
  have HR : Hid (R = .ok (bestD c h.ns (N + 1))) := ((HE.out R).1 rfl).symm.trans (by rw [hv, HNS.out, hN]; rfl)
  have HEV : Hid (∀ Y, Calls Try.prog 69 #[.agg #[.slice h.a h.n h.cap, .int .i64 h.eLo, .int .i64 h.eHi, .int .i64 h.images, .int .i64 h.sLo, .int .i64 h.sHi, .slice h.sa h.ns h.scap]] Y (Ret (.int .i64 N) Y)) := fun Y => by
    have := every_anyR h Y (by omega)
    rw [HP.out] at this; exact this
  have HRG : Hid (∀ k, k ≤ N + 1 → 0 ≤ bestD c h.ns k ∧ bestD c h.ns k ≤ N) := fun k hk => by have := bestD_rng c hn12 k (by omega); omega
  have HST : Hid (∀ k : Nat, bestD c h.ns (k + 1) = if decide (popc (k : Int) < popc (bestD c h.ns k)) && c (N - (k : Int)) then (k : Int) else bestD c h.ns k) := fun k => by rw [bestD, HP.out]
  have h0 : Hid (bestD c h.ns 0 = N) := HP.out
  clear HE HV HCA hv p1 p2 p3 hN
  generalize bestD c h.ns = bs at *
  obtain ⟨c0, c1, c2, c3, c4, c5, c6⟩ := hC1.out
  go_wp2_with fail
  refine (HEV.out _).mono ?_
  rintro e w2 ⟨rfl, hb2⟩
  have hC2 := Lib.hid (hC1.out.grown hb2)
  have hW2 := BT hW1 hb2
  clear hC1 hW1 hb2 c0 c1 c2 c3 c4 c5 c6
  go_wp2_with fail
  go_loopw [4, 5] (fun b s wr => ∃ k : Nat, k ≤ N + 1 ∧ s = .int .i64 k ∧ b = .int .i64 (bs k) ∧ Below w2.heap.size w2 wr) (fun _ s _ => N + 1 - (intOf s).toNat)
  case atStart => exact ⟨0, by omega, rfl, by rw [h0.out], Below.refl _ _⟩
  case round =>
    obtain ⟨k, hk, rfl, rfl, hB⟩ := hrel
    obtain ⟨c0, c1, c2, c3, c4, c5, c6⟩ := hC2.out.grown hB
    have hk0 : (0 : Int) ≤ (k : Int) := by omega
    have hk1 : (k : Int) ≤ 4096 := by omega
    obtain ⟨r0, r1⟩ := HRG.out k hk
    have hst := Lib.hid (HST.out k)
    have HBW := Lib.hid (BT hW2 hB)
    go_wp2_with fail
    refine (HEV.out _).mono ?_
    rintro e w3 ⟨rfl, hb3⟩
    have hB3 := BT hB hb3
    have HBW3 := Lib.hid (BT HBW.out hb3)
    clear c0 c1 c2 c3 c4 c5 c6 HBW hb3
    by_cases hlt : k < N + 1
    · have hca : Hid (∀ Y, Below w3.heap.size w3 Y → Calls Try.prog 77 #[.agg #[.slice h.a h.n h.cap, .int .i64 h.eLo, .int .i64 h.eHi, .int .i64 h.images, .int .i64 h.sLo, .int .i64 h.sHi, .slice h.sa h.ns h.scap], .int .i64 (N - k)] Y (Ret (.bool (c (N - k))) Y)) := fun Y hY => HCA1.out Y _ (BT HBW3.out hY) (by omega) (by omega)
      have hsz1 : Hid (∀ Y, Calls Try.prog 41 #[.int .i64 k] Y (Ret (.int .i64 (popc k)) Y)) := fun Y => size_any _ (by omega) Y
      have hsz2 : Hid (∀ Y, Calls Try.prog 41 #[.int .i64 (bs k)] Y (Ret (.int .i64 (popc (bs k))) Y)) := fun Y => size_any _ (by omega) Y
      have hC3 := hC2.out.grown (Below.drew hB3)
      have hSG : Hid (∀ X, Below w3.heap.size w3 X → BoxC X B h) := fun X hX => hC2.out.grown (BT hB3 hX)
      have hd0 : Below w3.heap.size w3 w3.drew := Below.drew (Below.refl _ _)
      generalize bs k = b at *
      generalize c ((N : Int) - (k : Int)) = cb at *
      generalize popc (k : Int) = pk at *
      generalize popc b = pb at *
      have kw : IntKind.i64.wrap ((N : Int) - (k : Int)) = (N : Int) - k := IntWalk.i64_in _ (by omega)
      by_cases hpl : pk < pb
      · have hd : decide (pk < pb) = true := decide_eq_true hpl
        go_wp2_with fail
        refine wp_region_seq [(0, true), (2, true), (1, false), (3, false), (4, true), (5, true), (6, true), (7, true), (9, true), (8, false), (10, true), (11, false), (12, true)]
          (fun w' => w'.cell? ⟨B, 0, none⟩ = some (.slice h.a h.n h.cap) ∧ w'.cell? ⟨B, 1, none⟩ = some (.int .i64 h.eLo) ∧ w'.cell? ⟨B, 2, none⟩ = some (.int .i64 h.eHi) ∧ w'.cell? ⟨B, 3, none⟩ = some (.int .i64 h.images) ∧ w'.cell? ⟨B, 4, none⟩ = some (.int .i64 h.sLo) ∧ w'.cell? ⟨B, 5, none⟩ = some (.int .i64 h.sHi) ∧ w'.cell? ⟨B, 6, none⟩ = some (.slice h.sa h.ns h.scap)) (by kernel_rfl) (by kernel_rfl) (fun _ _ d _ _ h => by cases d <;> exact h) hC3 ?_
        repeat (first | (refine seq_read rfl (by rfl) _ (fun w' hS => by (try dsimp only at hS); go_simp; (try with_reducible rfl)) ?_; (try simp only [Act.put, List.setIfInBounds_toArray, List.set_cons_zero, List.set_cons_succ])) | (refine seq_skip rfl (by rfl) ?_; (try simp only [Act.put, List.setIfInBounds_toArray, List.set_cons_zero, List.set_cons_succ])))
        (refine seq_do rfl (by rfl) (fun K hK => ?_); go_simp)
        refine (hsz1.out _).mono ?_
        rintro e w4 ⟨rfl, hb4⟩
        have hd4 := BT hd0 hb4
        refine hK _ _ (hSG.out _ hd4) ?_
        clear hK K hd0 hb4
        (try simp only [Act.put, List.setIfInBounds_toArray, List.set_cons_zero, List.set_cons_succ])
        (refine seq_do rfl (by rfl) (fun K hK => ?_); go_simp)
        refine (hsz2.out _).mono ?_
        rintro e w5 ⟨rfl, hb5⟩
        have hd5 := BT hd4 hb5
        refine hK _ _ (hSG.out _ hd5) ?_
        clear hK K hd4 hb5
        (try simp only [Act.put, List.setIfInBounds_toArray, List.set_cons_zero, List.set_cons_succ])
        repeat (first | (refine seq_read rfl (by rfl) _ (fun w' hS => by (try dsimp only at hS); go_simp; (try with_reducible rfl)) ?_; (try simp only [Act.put, List.setIfInBounds_toArray, List.set_cons_zero, List.set_cons_succ])) | (refine seq_skip rfl (by rfl) ?_; (try simp only [Act.put, List.setIfInBounds_toArray, List.set_cons_zero, List.set_cons_succ])))
        (refine seq_do rfl (by rfl) (fun K hK => ?_); go_simp)
        refine (HEV.out _).mono ?_
        rintro e w6 ⟨rfl, hb6⟩
        have hd6 := BT hd5 hb6
        refine hK _ _ (hSG.out _ hd6) ?_
        clear hK K hd5 hb6
        (try simp only [Act.put, List.setIfInBounds_toArray, List.set_cons_zero, List.set_cons_succ])
        (refine seq_read rfl (by rfl) _ (fun w' hS => by (try dsimp only at hS); go_simp; (try with_reducible rfl)) ?_; (try simp only [Act.put, List.setIfInBounds_toArray, List.set_cons_zero, List.set_cons_succ]))
        (refine seq_do rfl (by rfl) (fun K hK => ?_); go_simp)
        refine (hca.out _ hd6).mono ?_
        rintro e w7 ⟨rfl, hb7⟩
        have hd7 := BT hd6 hb7
        refine hK _ _ (hSG.out _ hd7) ?_
        clear hK K hd6 hb7
        (try simp only [Act.put, List.setIfInBounds_toArray, List.set_cons_zero, List.set_cons_succ])
        (refine seq_read rfl (by rfl) _ (fun w' hS => by (try dsimp only at hS); go_simp; (try with_reducible rfl)) ?_; (try simp only [Act.put, List.setIfInBounds_toArray, List.set_cons_zero, List.set_cons_succ]))
        refine seq_end ?_
        have hB7 := BT hB3 hd7
        clear hB hB3 hd7 HBW3 hca hsz1 hsz2 hC3 hSG kw
        cases cb
        · have HN : Hid (bs (k + 1) = b) := by show _ = _; rw [hst.out]; simp
          clear hst hd
          go_wp2
          go_roundw
          case rel => exact ⟨k + 1, by omega, by go_num, by rw [HN.out], hB7⟩
          case measure => simp [intOf]; omega
        · have HN : Hid (bs (k + 1) = k) := by show _ = _; rw [hst.out, hd]; simp
          clear hst hd
          go_wp2
          go_roundw
          case rel => exact ⟨k + 1, by omega, by go_num, by rw [HN.out], hB7⟩
          case measure => simp [intOf]; omega
      · have hd : decide (pk < pb) = false := decide_eq_false hpl
        have HN : Hid (bs (k + 1) = b) := by show _ = _; rw [hst.out, hd]; simp
        go_wp2_with fail
        refine wp_region_seq [(0, true), (2, true), (1, false), (3, false), (4, true), (5, true), (6, true), (7, true), (9, true), (8, false), (10, true), (11, false), (12, true)]
          (fun w' => w'.cell? ⟨B, 0, none⟩ = some (.slice h.a h.n h.cap) ∧ w'.cell? ⟨B, 1, none⟩ = some (.int .i64 h.eLo) ∧ w'.cell? ⟨B, 2, none⟩ = some (.int .i64 h.eHi) ∧ w'.cell? ⟨B, 3, none⟩ = some (.int .i64 h.images) ∧ w'.cell? ⟨B, 4, none⟩ = some (.int .i64 h.sLo) ∧ w'.cell? ⟨B, 5, none⟩ = some (.int .i64 h.sHi) ∧ w'.cell? ⟨B, 6, none⟩ = some (.slice h.sa h.ns h.scap)) (by kernel_rfl) (by kernel_rfl) (fun _ _ d _ _ h => by cases d <;> exact h) hC3 ?_
        repeat (first | (refine seq_read rfl (by rfl) _ (fun w' hS => by (try dsimp only at hS); go_simp; (try with_reducible rfl)) ?_; (try simp only [Act.put, List.setIfInBounds_toArray, List.set_cons_zero, List.set_cons_succ])) | (refine seq_skip rfl (by rfl) ?_; (try simp only [Act.put, List.setIfInBounds_toArray, List.set_cons_zero, List.set_cons_succ])))
        (refine seq_do rfl (by rfl) (fun K hK => ?_); go_simp)
        refine (hsz1.out _).mono ?_
        rintro e w4 ⟨rfl, hb4⟩
        have hd4 := BT hd0 hb4
        refine hK _ _ (hSG.out _ hd4) ?_
        clear hK K hd0 hb4
        (try simp only [Act.put, List.setIfInBounds_toArray, List.set_cons_zero, List.set_cons_succ])
        (refine seq_do rfl (by rfl) (fun K hK => ?_); go_simp)
        refine (hsz2.out _).mono ?_
        rintro e w5 ⟨rfl, hb5⟩
        have hd5 := BT hd4 hb5
        refine hK _ _ (hSG.out _ hd5) ?_
        clear hK K hd4 hb5
        (try simp only [Act.put, List.setIfInBounds_toArray, List.set_cons_zero, List.set_cons_succ])
        repeat (first | (refine seq_read rfl (by rfl) _ (fun w' hS => by (try dsimp only at hS); go_simp; (try with_reducible rfl)) ?_; (try simp only [Act.put, List.setIfInBounds_toArray, List.set_cons_zero, List.set_cons_succ])) | (refine seq_skip rfl (by rfl) ?_; (try simp only [Act.put, List.setIfInBounds_toArray, List.set_cons_zero, List.set_cons_succ])))
        refine seq_end ?_
        have hB7 := BT hB3 hd5
        clear hB hB3 hd5 HBW3 hca hsz1 hsz2 hC3 hSG kw hst hd
        go_wp2
        go_roundw
        case rel => exact ⟨k + 1, by omega, by go_num, by rw [HN.out], hB7⟩
        case measure => simp [intOf]; omega
    · obtain rfl : k = N + 1 := by omega
      have hB9 := HBW3.out
      generalize bs (N + 1) = b at *
      go_wp2
      exact bodyPost_ret (v := .tuple #[.int .i64 b, .int .i64 0]) (by simp [results, Try.results27, go_sem]) rfl ⟨by rw [HR.out]; rfl, hB9⟩
end Go.Proofs.Ytmfbkgdlfackcaa
