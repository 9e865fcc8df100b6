/- The reference: the settings that tell nothing. -/
import Derived.Test.YtmfbkgdlfackcaaSme
import Derived.Test.YtmfbkgdlfackcaaMon
namespace Go.Proofs.Ytmfbkgdlfackcaa
open Fw Go.RowKit

section
variable {h : Hd} {xs : List (Int × Int)} {ss : List Sett}
theorem same_tell (hv : validH h xs ss = true) (hs : ¬ (sumsS h xs ss (allS ss)).1 > (sumsS h xs ss (allS ss)).2) {k : Nat} (hk : k < ss.length) :
    tellB (otherS h.sLo h.sHi (tellsOf xs h.eLo h.eHi ss) k) ((tellsOf xs h.eLo h.eHi ss).getD k dfl) = true ↔ SameP (tellsOf xs h.eLo h.eHi ss) h.sLo h.sHi h.images.toNat (allO ss.length k) := by
  obtain ⟨va, vb, vc, vd, ve, vf, vg⟩ := valid_has hv
  have hl := len_tells h xs ss
  have hs' : ¬ (sumsE (tellsOf xs h.eLo h.eHi ss) (2 ^ (tellsOf xs h.eLo h.eHi ss).length - 1) h.sLo h.sHi h.images.toNat).1 > (sumsE (tellsOf xs h.eLo h.eHi ss) (2 ^ (tellsOf xs h.eLo h.eHi ss).length - 1) h.sLo h.sHi h.images.toNat).2 := by
    rw [hl]; exact hs
  have h1 := same_says (fair_of hv) (tells_img hv) (by omega) (by omega) (k := k) (by omega) hs'
  have hA := sums_yes (fair_of hv) (tells_img hv) (by omega) hs'
  obtain ⟨_, ⟨x, hx, _⟩, _⟩ := hA
  have h2 := tell_says (fair_of hv) (by omega) (by omega) (k := k) (by omega) ⟨x, ((tellsB_split (by omega) (by omega) x).1 hx).1⟩
  rw [hl] at h1 h2
  exact h2.trans h1.symm
theorem idleS_rng (sLo sHi : Int) (ts : List Tell) : ∀ k, k ≤ 12 → (0 ≤ idleS sLo sHi ts k ∧ idleS sLo sHi ts k < 2 ^ k) ∧ (k < 12 → idleS sLo sHi ts (k + 1) = if tellB (otherS sLo sHi ts k) (ts.getD k dfl) then idleS sLo sHi ts k + 2 ^ k else idleS sLo sHi ts k)
  | 0, _ => ⟨by rw [idleS]; decide, fun _ => by
      show (if tellB (otherS sLo sHi ts 0) (ts.getD 0 dfl) then bits .or .i64 0 (wrap64 (2 ^ 0)) else 0) = (if tellB (otherS sLo sHi ts 0) (ts.getD 0 dfl) then 0 + 2 ^ 0 else 0)
      rw [or_powN (by omega) (by decide)]⟩
  | k + 1, hk => by
    obtain ⟨⟨a, b⟩, c⟩ := idleS_rng sLo sHi ts k (by omega)
    have hn := c (by omega)
    have e : (2 : Int) ^ (k + 1) = 2 * 2 ^ k := by rw [Int.pow_succ, Int.mul_comm]
    have hr : 0 ≤ idleS sLo sHi ts (k + 1) ∧ idleS sLo sHi ts (k + 1) < 2 ^ (k + 1) := by
      rw [hn, e]; split <;> omega
    refine ⟨hr, fun hk2 => ?_⟩
    rw [idleS, or_powN hk2 hr]; rfl
theorem idle_cases (h : Hd) (xs : List (Int × Int)) (ss : List Sett) : ((openE h xs ss true).2.2 ≠ 0 ∧ idleA h xs ss = .error (openE h xs ss true).2.2) ∨
    ((openE h xs ss true).2.2 = 0 ∧ validH h xs ss = true ∧ ¬ (sumsS h xs ss (allS ss)).1 > (sumsS h xs ss (allS ss)).2 ∧ idleA h xs ss = .ok (idleS h.sLo h.sHi (tellsOf xs h.eLo h.eHi ss) ss.length)) := by
  unfold openE idleA idleR
  by_cases hv : validH h xs ss = true
  · rw [if_pos hv, if_pos rfl, if_pos hv, truths_can hv]
    unfold canB
    by_cases hs : (sumsS h xs ss (allS ss)).1 > (sumsS h xs ss (allS ss)).2
    · rw [if_pos hs]
      have : decide ((sumsS h xs ss (allS ss)).1 ≤ (sumsS h xs ss (allS ss)).2) = false := decide_eq_false (by omega)
      rw [this]
      exact .inl ⟨by decide, rfl⟩
    · rw [if_neg hs]
      have : decide ((sumsS h xs ss (allS ss)).1 ≤ (sumsS h xs ss (allS ss)).2) = true := decide_eq_true (by omega)
      rw [this]
      exact .inr ⟨rfl, hv, hs, rfl⟩
  · rw [if_neg hv, if_neg hv]
    exact .inl ⟨by decide, rfl⟩
end
set_option maxRecDepth 100000 in
set_option maxHeartbeats 8000000 in
theorem idle_anyR (h : Hd) (xs : List (Int × Int)) (ss : List Sett) (w : World) (hm : HasM w h xs ss) (hn : xs.length ≤ 100) (hns : ss.length ≤ 100) :
    Calls Try.prog 31 #[h.val] w (Ret (replyI (idleA h xs ss)) w) := by
  have HM := Lib.hid hm
  have HNS := Lib.hid hm.ns
  have hC0 : Hid (BoxC (w.alloc (.cells #[.slice h.a h.n h.cap, .int .i64 h.eLo, .int .i64 h.eHi, .int .i64 h.images, .int .i64 h.sLo, .int .i64 h.sHi, .slice h.sa h.ns h.scap] 29)) w.heap.size h) := boxC_new w h
  have hW0 : Hid (Below w.heap.size w (w.alloc (.cells #[.slice h.a h.n h.cap, .int .i64 h.eLo, .int .i64 h.eHi, .int .i64 h.images, .int .i64 h.sLo, .int .i64 h.sHi, .slice h.sa h.ns h.scap] 29))) := newB _ _
  have hOP := open_anyR h xs ss true _ (hm.below (Nat.le_refl _) hW0.out) hn hns
  have HCS := Lib.hid (idle_cases h xs ss)
  generalize openE h xs ss true = O at *
  generalize idleA h xs ss = R at *
  obtain ⟨o1, o2, o3⟩ := O
  dsimp only at hOP HCS
  unfold Hd.val tup3 at hOP
  unfold Hd.val
  clear hm
  go_enter Try.func31, Try.ntmps31
  obtain ⟨c0, c1, c2, c3, c4, c5, c6⟩ := hC0.out
  go_wp2_with fail
  generalize hBw : w.heap.size = B at hC0 c0 c1 c2 c3 c4 c5 c6 ⊢
  generalize w.alloc (.cells #[.slice h.a h.n h.cap, .int .i64 h.eLo, .int .i64 h.eHi, .int .i64 h.images, .int .i64 h.sLo, .int .i64 h.sHi, .slice h.sa h.ns h.scap] 29) = W at *
  clear hBw
  refine hOP.mono ?_
  rintro e w1 ⟨rfl, hb1⟩
  have hA1 := BT hb1 (newB w1 (.cells #[.int .i64 o1, .int .i64 o2] 24))
  have hC1 := Lib.hid (hC0.out.grown hA1)
  have hW1 := BT hW0.out hA1
  clear hC0 hW0 hOP c0 c1 c2 c3 c4 c5 c6 hb1 hA1
  obtain ⟨c0, c1, c2, c3, c4, c5, c6⟩ := hC1.out
  rcases HCS.out with ⟨hne, hR⟩ | ⟨h00, hv, hs, hR⟩
  · subst hR
    clear HCS
    go_wp2
    exact bodyPost_ret (v := .tuple #[.int .i64 0, .int .i64 o3]) (by simp [results, Try.results31, go_sem]) rfl ⟨rfl, hW1⟩
  subst hR
  subst h00
  obtain ⟨va, vb, vc, vd, ve, vf, vg⟩ := valid_has hv
  have h12 : h.ns ≤ 12 := by rw [← HNS.out]; exact vf
  obtain ⟨p1, p2, p3⟩ := pow_12 h12
  obtain ⟨al, hal⟩ : ∃ al : Nat, 2 ^ h.ns - 1 = al := ⟨_, rfl⟩
  have hal1 : al ≤ 4095 := by omega
  have HP : Hid ((2 : Int) ^ h.ns - 1 = (al : Int)) := by show _ = _; omega
  have HEV : Hid (∀ Y, Calls Try.prog 69 #[.agg #[.slice h.a h.n h.cap, .int .i64 h.eLo, .int .i64 h.eHi, .int .i64 h.images, .int .i64 h.sLo, .int .i64 h.sHi, .slice h.sa h.ns h.scap]] Y (Ret (.int .i64 al) Y)) := fun Y => by
    have := every_anyR h Y (by omega)
    rw [HP.out] at this; exact this
  have HSM : Hid (∀ k, k < h.ns → ∀ Y, Below w.heap.size w Y → Calls Try.prog 85 #[.agg #[.slice h.a h.n h.cap, .int .i64 h.eLo, .int .i64 h.eHi, .int .i64 h.images, .int .i64 h.sLo, .int .i64 h.sHi, .slice h.sa h.ns h.scap], .int .i64 (al - 2 ^ k)] Y (Ret (.bool (tellB (otherS h.sLo h.sHi (tellsOf xs h.eLo h.eHi ss) k) ((tellsOf xs h.eLo h.eHi ss).getD k dfl))) Y)) := fun k hk Y hY => by
    have e : allO ss.length k = (al : Int) - 2 ^ k := by unfold allO; rw [HNS.out, HP.out]
    have hr := allO_rng (n := ss.length) (k := k) vf (by rw [HNS.out]; exact hk)
    have hb := same_tell hv (Int.not_lt.2 hs) (k := k) (by rw [HNS.out]; exact hk)
    rw [e] at hr hb
    exact same_anyR h xs ss _ _ Y (HM.out.below (Nat.le_refl _) hY) hv (by omega) hb
  have HI : Hid (∀ k, k ≤ 12 → (0 ≤ idleS h.sLo h.sHi (tellsOf xs h.eLo h.eHi ss) k ∧ idleS h.sLo h.sHi (tellsOf xs h.eLo h.eHi ss) k < 2 ^ k) ∧ (k < 12 → idleS h.sLo h.sHi (tellsOf xs h.eLo h.eHi ss) (k + 1) = if tellB (otherS h.sLo h.sHi (tellsOf xs h.eLo h.eHi ss) k) ((tellsOf xs h.eLo h.eHi ss).getD k dfl) then idleS h.sLo h.sHi (tellsOf xs h.eLo h.eHi ss) k + 2 ^ k else idleS h.sLo h.sHi (tellsOf xs h.eLo h.eHi ss) k)) := fun k hk => idleS_rng _ _ _ k hk
  have HI0 : Hid (idleS h.sLo h.sHi (tellsOf xs h.eLo h.eHi ss) 0 = 0) := rfl
  generalize idleS h.sLo h.sHi (tellsOf xs h.eLo h.eHi ss) = is at *
  obtain ⟨sb, hsb⟩ : ∃ sb : Nat → Bool, (fun k => tellB (otherS h.sLo h.sHi (tellsOf xs h.eLo h.eHi ss) k) ((tellsOf xs h.eLo h.eHi ss).getD k dfl)) = sb := ⟨_, rfl⟩
  have HSM2 : Hid (∀ k, k < h.ns → ∀ Y, Below w.heap.size w Y → Calls Try.prog 85 #[.agg #[.slice h.a h.n h.cap, .int .i64 h.eLo, .int .i64 h.eHi, .int .i64 h.images, .int .i64 h.sLo, .int .i64 h.sHi, .slice h.sa h.ns h.scap], .int .i64 (al - 2 ^ k)] Y (Ret (.bool (sb k)) Y)) := fun k hk Y hY => by rw [← hsb]; exact HSM.out k hk Y hY
  have HI2 : Hid (∀ k, k ≤ 12 → (0 ≤ is k ∧ is k < 2 ^ k) ∧ (k < 12 → is (k + 1) = if sb k then is k + 2 ^ k else is k)) := fun k hk => by rw [← hsb]; exact HI.out k hk
  clear HCS va vb vc vd ve vf vg p1 p2 p3 hal hv hs HSM HI hsb
  go_wp2_with fail
  generalize w1.alloc (.cells #[.int .i64 o1, .int .i64 o2] 24) = W1 at *
  clear c0 c1 c2 c3 c4 c5 c6
  have hs0 : (h.ns : Int) ≤ 100 := by omega
  have hs2 : h.ns ≤ 9223372036854775807 := by omega
  go_loopw [6, 7] (fun o i wr => ∃ k : Nat, k ≤ h.ns ∧ i = .int .i64 k ∧ o = .int .i64 (is k) ∧ Below W1.heap.size W1 wr) (fun _ i _ => h.ns - (intOf i).toNat)
  case atStart => exact ⟨0, by omega, rfl, by rw [HI0.out], Below.refl _ _⟩
  case round =>
    obtain ⟨k, hk, rfl, rfl, hB⟩ := hrel
    have hk0 : (0 : Int) ≤ (k : Int) := by omega
    obtain ⟨⟨r0, r1⟩, r2⟩ := HI2.out k (by omega)
    have q2 : (2 : Int) ^ k ≤ 4096 := (by decide : ∀ k : Fin 13, (2 : Int) ^ k.val ≤ 4096) ⟨k, by omega⟩
    obtain ⟨q0, q1⟩ := pow_le (Nat.le_refl k) (show k ≤ 30 by omega)
    obtain ⟨c0, c1, c2, c3, c4, c5, c6⟩ := hC1.out.grown hB
    have hBW := BT hW1 hB
    by_cases hlt : k < h.ns
    · have hst := Lib.hid (r2 (by omega))
      have HPW := Lib.hid (power_any k (by omega))
      have hsm := Lib.hid (HSM2.out k hlt)
      have hC2 := hC1.out.grown (Below.drew hB)
      have hSG : Hid (∀ X, Below W1.heap.size W1 X → BoxC X B h) := fun X hX => hC1.out.grown hX
      have hd0 : Below W1.heap.size W1 wr.drew := Below.drew hB
      clear r2
      generalize (2 : Int) ^ k = pw at *
      generalize is k = o at *
      generalize sb k = bb at *
      have kw : IntKind.i64.wrap ((al : Int) - pw) = al - pw := IntWalk.i64_in _ (by omega)
      go_wp2_with fail
      clear c0 c1 c2 c3 c4 c5 c6
      refine wp_region_seq [(0, true), (1, true), (3, true), (2, false), (4, false), (5, true), (6, false)] (fun w' => w'.cell? ⟨B, 0, none⟩ = some (.slice h.a h.n h.cap) ∧ w'.cell? ⟨B, 1, none⟩ = some (.int .i64 h.eLo) ∧ w'.cell? ⟨B, 2, none⟩ = some (.int .i64 h.eHi) ∧ w'.cell? ⟨B, 3, none⟩ = some (.int .i64 h.images) ∧ w'.cell? ⟨B, 4, none⟩ = some (.int .i64 h.sLo) ∧ w'.cell? ⟨B, 5, none⟩ = some (.int .i64 h.sHi) ∧ w'.cell? ⟨B, 6, none⟩ = some (.slice h.sa h.ns h.scap)) (by kernel_rfl) (by kernel_rfl) (fun _ _ d _ _ h => by cases d <;> exact h) hC2 ?_
      repeat (first | (refine seq_read rfl (by rfl) _ (fun w' hS => by (try dsimp only at hS); go_simp; (try with_reducible rfl)) ?_; (try simp only [Act.put, List.setIfInBounds_toArray, List.set_cons_zero, List.set_cons_succ])) | (refine seq_skip rfl (by rfl) ?_; (try simp only [Act.put, List.setIfInBounds_toArray, List.set_cons_zero, List.set_cons_succ])))
      (refine seq_do rfl (by rfl) (fun K hK => ?_); go_simp)
      refine (HEV.out _).mono ?_
      rintro e w4 ⟨rfl, hb4⟩
      have hd4 := BT hd0 hb4
      refine hK _ _ (hSG.out _ hd4) ?_
      clear hK K hd0 hb4 hC2
      (try simp only [Act.put, List.setIfInBounds_toArray, List.set_cons_zero, List.set_cons_succ])
      (refine seq_do rfl (by rfl) (fun K hK => ?_); go_simp)
      refine (HPW.out _).mono ?_
      rintro e w5 ⟨rfl, hb5⟩
      have hd5 := BT hd4 hb5
      refine hK _ _ (hSG.out _ hd5) ?_
      clear hK K hd4 hb5
      (try simp only [Act.put, List.setIfInBounds_toArray, List.set_cons_zero, List.set_cons_succ])
      (refine seq_read rfl (by rfl) _ (fun w' hS => by (try dsimp only at hS); go_simp; (try with_reducible rfl)) ?_; (try simp only [Act.put, List.setIfInBounds_toArray, List.set_cons_zero, List.set_cons_succ]))
      (refine seq_do rfl (by rfl) (fun K hK => ?_); go_simp)
      refine (hsm.out _ (BT hW1 hd5)).mono ?_
      rintro e w6 ⟨rfl, hb6⟩
      have hd6 := BT hd5 hb6
      refine hK _ _ (hSG.out _ hd6) ?_
      clear hK K hd5 hb6
      (try simp only [Act.put, List.setIfInBounds_toArray, List.set_cons_zero, List.set_cons_succ])
      refine seq_end ?_
      cases bb
      · have HN : Hid (is (k + 1) = o) := by show _ = _; rw [hst.out]; rfl
        clear hst
        go_wp2
        go_roundw
        case rel => exact ⟨k + 1, by omega, by go_num, by rw [HN.out], hd6⟩
        case measure => simp [intOf]; omega
      · have HN : Hid (is (k + 1) = o + pw) := by show _ = _; rw [hst.out, if_pos rfl]
        clear hst
        go_wp2_with fail
        refine (HPW.out _).mono ?_
        rintro e w7 ⟨rfl, hb7⟩
        have hd7 := BT hd6 hb7
        go_wp2
        go_roundw
        case rel => exact ⟨k + 1, by omega, by go_num, by rw [HN.out], hd7⟩
        case measure => simp [intOf]; omega
    · obtain rfl : k = h.ns := by omega
      have HB9 : Hid (is ss.length = is h.ns) := congrArg is HNS.out
      generalize is h.ns = b at *
      go_wp2
      exact bodyPost_ret (v := .tuple #[.int .i64 b, .int .i64 0]) (by simp [results, Try.results31, go_sem]) rfl ⟨by rw [HB9.out]; rfl, hBW⟩
end Go.Proofs.Ytmfbkgdlfackcaa
