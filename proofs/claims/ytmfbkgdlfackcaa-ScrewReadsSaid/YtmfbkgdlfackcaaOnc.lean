/- The images that were measured in one position alone. -/
import Derived.Test.YtmfbkgdlfackcaaApi
namespace Go.Proofs.Ytmfbkgdlfackcaa
open Go.RowKit Go.Shelf

/-- The set of those of the first images that have a setting in one position alone. -/
def onceS (cs : List Cnt) : Nat → Int
  | 0 => 0
  | k + 1 => if (((getC (k : Int) cs).1 == 0) != ((getC (k : Int) cs).2 == 0)) = true then bits .or .i64 (onceS cs k) (2 ^ k) else onceS cs k
def onceR (h : Hd) (ss : List Sett) : Int := onceS (cntsOf ss) h.images.toNat

set_option maxRecDepth 100000 in
set_option maxHeartbeats 2000000 in
theorem onceC_yes (B : Nat) (h : Hd) (xs : List (Int × Int)) (ss : List Sett) (w : World) (hm : BoxM w B h xs ss) (hv : validH h xs ss = true) :
    Calls Try.prog 80 #[.pointer (some ⟨B, 0, none⟩)] w (Ret (.int .i64 (onceR h ss)) w) := by
  obtain ⟨c0, c1, c2, c3, c4, c5, c6, hh⟩ := hm
  have hc := lookAt_yes h xs ss _ hh hv
  have hin : ∃ n : Nat, h.images = (n : Int) ∧ n ≤ 6 := by
    simp only [validH, validM, headB, holdB, Bool.and_eq_true, decide_eq_true_eq] at hv
    obtain ⟨⟨⟨⟨_, him⟩, _⟩, _⟩, _⟩ := hv
    exact ⟨h.images.toNat, by omega, by omega⟩
  obtain ⟨n, hin, hn⟩ := hin
  have HR : Hid (onceR h ss = onceS (cntsOf ss) n) := by show _ = _; unfold onceR; rw [hin]; rfl
  generalize onceR h ss = res at *
  generalize tellsOf xs h.eLo h.eHi ss = ts at *
  generalize cntsOf ss = cs at *
  clear hh hv
  have HI := Lib.hid hin; clear hin
  unfold Hd.val at hc
  go_enter Try.func80, Try.ntmps80
  go_wp2_with (go_at_call 58; refine hc.mono ?_; rintro e w1 ⟨L, mb, tv, rfl, hb1, hL⟩; obtain ⟨k0, k1, k2, k3, k4, k5, k6, k7, k8, k9⟩ := hL.cell; rw [HI.out] at k3)
  have hb1' : Below w.heap.size w w1 := by (repeat (first | assumption | exact Below.refl _ _ | refine BA ?_ _ | refine BC ?_ _ _ (by omega) _ | refine Below.drew ?_ | refine BT ?_ (by assumption)))
  clear hc c0 c1 c2 c3 c4 c5 c6 k0 k1 k2 k3 k4 k5 k6 k7 k8 k9
  go_loopw [3, 13] (fun o i wr => ∃ k : Nat, i = .int .i64 k ∧ k ≤ n ∧ o = .int .i64 (onceS cs k) ∧ Below w1.heap.size w1 wr) (fun _ i _ => n - (intOf i).toNat)
  case atStart => exact ⟨0, rfl, by omega, rfl, Below.refl _ _⟩
  case round =>
    obtain ⟨k, rfl, hk, rfl, hbr⟩ := hrel
    have hLr := hL.grown hbr
    have hrun := run_lookup93 hLr.map (k : Int)
    obtain ⟨_, _, _, _, _, _, _, _, k8, _⟩ := hLr.cell
    have HS : Hid (onceS cs (k + 1) = if (((getC (k : Int) cs).1 == 0) != ((getC (k : Int) cs).2 == 0)) = true then bits .or .i64 (onceS cs k) (2 ^ k) else onceS cs k) := rfl
    have hk0 : (0 : Int) ≤ (k : Int) := by omega
    have hk1 : (k : Int) ≤ 6 := by omega
    have hp : k ≤ 6 → wrap64 (2 ^ k) = 2 ^ k := fun hk => (by decide +kernel : ∀ k : Fin 7, wrap64 (2 ^ k.val) = 2 ^ k.val) ⟨k, by omega⟩
    have HP := Lib.hid (hp (by omega))
    clear hp hLr
    generalize getC (k : Int) cs = uv at *
    obtain ⟨u, r⟩ := uv
    dsimp only at *
    by_cases hlt : k < n
    · have hd : decide ((k : Int) < (n : Int)) = true := by simp; omega
      have hbn : Below w1.heap.size w1 (wr.alloc (.cells #[.int .i64 u, .int .i64 r] 97)) := by (repeat (first | assumption | exact Below.refl _ _ | refine BA ?_ _ | refine BC ?_ _ _ (by omega) _ | refine Below.drew ?_ | refine BT ?_ (by assumption)))
      cases hu : (u == 0) <;> cases hr : (r == 0)
      all_goals
        have hS := HS.out
        rw [hu, hr] at hS
        simp at hS
        have HS2 := Lib.hid hS
        clear HS hS
        go_wp2
      all_goals
        refine ⟨⟨k + 1, by simp, by omega, ?_, hbn⟩, by simp [intOf]; omega⟩
        rw [HS2.out]
        try rw [HP.out]
    · obtain rfl : k = n := by omega
      have hd : decide ((k : Int) < (k : Int)) = false := by simp
      go_wp2
      go_ret
      exact ⟨by rw [HR.out]; rfl, BT hb1' hbr⟩

set_option maxRecDepth 100000 in
set_option maxHeartbeats 2000000 in
theorem onceC_no (B : Nat) (h : Hd) (xs : List (Int × Int)) (ss : List Sett) (w : World) (hm : BoxM w B h xs ss) (hv : validH h xs ss = false) : Calls Try.prog 80 #[.pointer (some ⟨B, 0, none⟩)] w (Pan 1 w) := by
  obtain ⟨c0, c1, c2, c3, c4, c5, c6, hh⟩ := hm
  have hc := lookAt_no h xs ss _ hh hv
  clear hh hv
  obtain ⟨ha, hnn, hcap, heLo, heHi, him, hsLo, hsHi, hsa, hns, hscap⟩ := h
  unfold Hd.val at hc
  dsimp only at *
  go_enter Try.func80, Try.ntmps80
  go_wp2_with (go_at_call 58; refine hc.mono ?_; rintro e w1 ⟨rfl, hb1⟩)
  exact ⟨rfl, rfl, by (repeat (first | assumption | exact Below.refl _ _ | refine BA ?_ _ | refine BC ?_ _ _ (by omega) _ | refine Below.drew ?_ | refine BT ?_ (by assumption)))⟩
def onceA (h : Hd) (xs : List (Int × Int)) (ss : List Sett) : Except Int Int := if validH h xs ss then .ok (onceR h ss) else .error 1
set_option maxRecDepth 100000 in
set_option maxHeartbeats 2000000 in
theorem once_any (h : Hd) (xs : List (Int × Int)) (ss : List Sett) (w : World) (hm : HasM w h xs ss) :
    Calls Try.prog 28 #[h.val] w (Ret (replyI (onceA h xs ss)) w) := by
  have hmf : ∀ (fn : Fn) (first cap : Array Value) (w : World), (Instr.makeFunc fn first cap).run Try.prog w = .ok (.func fn first cap) w := fun _ _ _ _ => rfl
  have hcl : Hid (∀ B Y, BoxM Y B h xs ss → Calls Try.prog 80 #[.pointer (some ⟨B, 0, none⟩)] Y (OutI (onceA h xs ss) Y)) := fun B Y hB => by
    unfold onceA
    cases hv : validH h xs ss
    · rw [if_neg (by simp)]; exact onceC_no B h xs ss Y hB hv
    · rw [if_pos rfl]; exact onceC_yes B h xs ss Y hB hv
  generalize onceA h xs ss = r at *
  have hb0 := boxM_new hm
  clear hm
  obtain ⟨v, c, hrep⟩ := replyI_eq r
  unfold Hd.val
  go_enter Try.func28, Try.ntmps28
  go_wp2_with fail
  have hB1 := newB w (.cells #[.slice h.a h.n h.cap, .int .i64 h.eLo, .int .i64 h.eHi, .int .i64 h.images, .int .i64 h.sLo, .int .i64 h.sHi, .slice h.sa h.ns h.scap] 29)
  generalize w.alloc (Obj.cells #[.slice h.a h.n h.cap, .int .i64 h.eLo, .int .i64 h.eHi, .int .i64 h.images, .int .i64 h.sLo, .int .i64 h.sHi, .slice h.sa h.ns h.scap] 29) = W1 at *
  refine (answerI_any 80 _ r _ (fun w => enters_of Try.func80 (by kernel_rfl) rfl _ w) (fun Y hY => hcl.out _ Y (hb0.grown hY))).mono ?_
  rintro e w9 ⟨rfl, hb9⟩
  have hB9 := BT hB1 hb9
  clear hb9 hB1 hb0 hcl
  rw [hrep]
  go_wp2
  exact bodyPost_ret (v := .tuple #[.int .i64 v, .int .i64 c]) (by simp [results, Try.results28, go_sem]) rfl ⟨by rw [hrep], hB9⟩
end Go.Proofs.Ytmfbkgdlfackcaa
