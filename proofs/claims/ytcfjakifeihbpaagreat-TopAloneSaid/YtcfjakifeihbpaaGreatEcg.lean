/- Eye: the closures of Clash, Drop and Explain. -/
import Derived.Test.YtcfjakifeihbpaaGreatEcl
namespace Go.Proofs.YtcfjakifeihbpaaGreat
namespace Ey
open Go.RowKit

def eyesN (h : Wd) : Nat := h.eyes.toNat
def clashR (h : Wd) (xs : List (Int × Int)) (ls : List LkV) : Int :=
  if canW h (ls.map (travOf h xs)) ls (eyesN h) (allS ls.length) (allS (eyesN h)) then 0 else firstOf ls.length (fun x => !canW h (ls.map (travOf h xs)) ls (eyesN h) x (allS (eyesN h)))
def dropR (h : Wd) (xs : List (Int × Int)) (ls : List LkV) : Int := firstOf ls.length (fun x => canW h (ls.map (travOf h xs)) ls (eyesN h) (butS ls.length x) (allS (eyesN h)))
def explainR (h : Wd) (xs : List (Int × Int)) (ls : List LkV) : Except Int Int :=
  if canW h (ls.map (travOf h xs)) ls (eyesN h) (allS ls.length) (allS (eyesN h)) then .ok (firstOf (eyesN h) (fun x => canW h (ls.map (travOf h xs)) ls (eyesN h) (allS ls.length) x)) else .error 10
set_option maxRecDepth 100000 in
set_option maxHeartbeats 2000000 in
theorem clashC_no (B : Nat) (h : Wd) (xs : List (Int × Int)) (ls : List LkV) (w : World) (hm : BoxA w B h xs ls) (hv : validW h xs ls = false) : Calls Tryz.prog 19 #[.pointer (some ⟨B, 0, none⟩)] w (Pan 1 w) := by
  have hc : Hid (Calls Tryz.prog 20 #[h.val] w (Pan 1 w)) := lookAt_no h xs ls w hm.has hv
  obtain ⟨⟨c0, c1, c2, c3, c4, c5, c6, c7⟩, _⟩ := hm
  clear hv
  unfold Wd.val at hc
  go_enter Tryz.func19, Tryz.ntmps19
  go_wp2_with fail
  refine hc.out.mono ?_
  rintro e w1 ⟨rfl, hb1⟩
  go_wp2
  exact ⟨rfl, rfl, hb1⟩
set_option maxRecDepth 100000 in
set_option maxHeartbeats 2000000 in
theorem dropC_no (B : Nat) (h : Wd) (xs : List (Int × Int)) (ls : List LkV) (w : World) (hm : BoxA w B h xs ls) (hv : validW h xs ls = false) : Calls Tryz.prog 34 #[.pointer (some ⟨B, 0, none⟩)] w (Pan 1 w) := by
  have hc : Hid (Calls Tryz.prog 20 #[h.val] w (Pan 1 w)) := lookAt_no h xs ls w hm.has hv
  obtain ⟨⟨c0, c1, c2, c3, c4, c5, c6, c7⟩, _⟩ := hm
  clear hv
  unfold Wd.val at hc
  go_enter Tryz.func34, Tryz.ntmps34
  go_wp2_with fail
  refine hc.out.mono ?_
  rintro e w1 ⟨rfl, hb1⟩
  go_wp2
  exact ⟨rfl, rfl, hb1⟩
set_option maxRecDepth 100000 in
set_option maxHeartbeats 2000000 in
theorem dropC_yes (B : Nat) (h : Wd) (xs : List (Int × Int)) (ls : List LkV) (w : World) (hm : BoxA w B h xs ls) (hv : validW h xs ls = true) : Calls Tryz.prog 34 #[.pointer (some ⟨B, 0, none⟩)] w (Ret (.int .i64 (dropR h xs ls)) w) := by
  have hVW := validW_iff hv
  obtain ⟨E, hE⟩ : ∃ E : Nat, h.eyes = (E : Int) := ⟨h.eyes.toNat, by have := hVW.ey; omega⟩
  have hEn : eyesN h = E := by unfold eyesN; rw [hE]; rfl
  have hk0 := wok_of hv hm.has.nl hE
  have hk := Lib.hid hk0
  have hln12 : ls.length ≤ 12 := hk0.l12
  have hE12 : E ≤ 12 := by have := hk0.e4; omega
  have hnl := hk0.nl
  have hlk := Lib.hid (hm.has.lk)
  have hc : Hid (Calls Tryz.prog 20 #[h.val] w (LookOut w h (ls.map (travOf h xs)))) := lookAt_yes h xs ls w hm.has hv
  obtain ⟨⟨c0, c1, c2, c3, c4, c5, c6, c7⟩, _⟩ := hm
  have hmf : ∀ (fn : Fn) (first cap : Array Value) (w : World), (Instr.makeFunc fn first cap).run Tryz.prog w = .ok (.func fn first cap) w := fun _ _ _ _ => rfl
  unfold dropR
  rw [hEn]
  generalize ls.map (travOf h xs) = ts at hc hk ⊢
  have hf : Hid (∀ W Bx L tv Bn, BoxL w W Bx L E h tv ts ls → W.cell? ⟨Bn, 0, none⟩ = some (.int .i64 ((h.ln : Nat) : Int)) → Calls Tryz.prog 24 #[.func (.func 68) #[] #[.pointer (some ⟨Bn, 0, none⟩)], .func (.func 35) #[] #[.pointer (some ⟨Bx, 0, none⟩)]] W (Ret (.int .i64 (firstOf ls.length (fun x => canW h ts ls E (butS ls.length x) (allS E)))) W)) := fun W Bx L tv Bn k hb => by
    rw [← hnl] at hb
    exact firstD_any ls.length Bn (by omega) (.pointer (some ⟨Bx, 0, none⟩)) _ W hb (fun x Y hY => drop1_any w Bx L E h tv ts ls x Y (k.grown hY))
  generalize firstOf ls.length (fun x => canW h ts ls E (butS ls.length x) (allS E)) = r at *
  clear hv hVW hE hEn hk0
  unfold Wd.val at hc
  go_enter Tryz.func34, Tryz.ntmps34
  go_wp2_with fail
  refine hc.out.mono ?_
  rintro e w1 ⟨L, tv, rfl, hb1, hI⟩
  go_upto_region 2 with fail
  have hX := newB w1 (.cells #[.pointer (some ⟨L, 0, none⟩)] 52)
  have hbox : BoxL w (w1.alloc (.cells #[.pointer (some ⟨L, 0, none⟩)] 52)) w1.heap.size L E h tv ts ls := ⟨one_new _ _ _, hI.grown hX, hlk.out.below (BT hb1 hX), hk.out⟩
  have hBW := BT hb1 hX
  clear c0 c1 c2 c3 c4 c5 c6 c7 hc hX hb1 hI
  generalize w1.heap.size = Bx at hbox ⊢
  generalize w1.alloc (.cells #[.pointer (some ⟨L, 0, none⟩)] 52) = W at *
  have hbx := hbox.box
  obtain ⟨k0, k1, k2, k3, k4, k5, k6, k7⟩ := hbox.look.box
  clear k0 k1 k2 k3 k4 k5 k6
  go_wp2_with fail
  refine (sets_any h.ln _).mono ?_
  rintro e w5 ⟨rfl, rfl⟩
  have hbn := one_new W (.int .i64 ((h.ln : Nat) : Int)) 3
  have hBn := newB W (.cells #[.int .i64 ((h.ln : Nat) : Int)] 3)
  have hbox2 := hbox.grown hBn
  have hBW2 := BT hBW hBn
  clear hbox hBW hBn
  go_wp2_with fail
  refine (hf.out _ _ _ _ _ hbox2 hbn).mono ?_
  rintro e w6 ⟨rfl, hb6⟩
  have hB6 := BT hBW2 hb6
  go_wp2
  go_ret
  exact ⟨rfl, hB6⟩
set_option maxRecDepth 100000 in
set_option maxHeartbeats 2000000 in
theorem clashC_yes (B : Nat) (h : Wd) (xs : List (Int × Int)) (ls : List LkV) (w : World) (hm : BoxA w B h xs ls) (hv : validW h xs ls = true) : Calls Tryz.prog 19 #[.pointer (some ⟨B, 0, none⟩)] w (Ret (.int .i64 (clashR h xs ls)) w) := by
  have hVW := validW_iff hv
  obtain ⟨E, hE⟩ : ∃ E : Nat, h.eyes = (E : Int) := ⟨h.eyes.toNat, by have := hVW.ey; omega⟩
  have hEn : eyesN h = E := by unfold eyesN; rw [hE]; rfl
  have hk0 := wok_of hv hm.has.nl hE
  have hk := Lib.hid hk0
  have hln12 : ls.length ≤ 12 := hk0.l12
  have hE12 : E ≤ 12 := by have := hk0.e4; omega
  have hnl := hk0.nl
  have hlk := Lib.hid (hm.has.lk)
  have hc : Hid (Calls Tryz.prog 20 #[h.val] w (LookOut w h (ls.map (travOf h xs)))) := lookAt_yes h xs ls w hm.has hv
  obtain ⟨⟨c0, c1, c2, c3, c4, c5, c6, c7⟩, _⟩ := hm
  have hmf : ∀ (fn : Fn) (first cap : Array Value) (w : World), (Instr.makeFunc fn first cap).run Tryz.prog w = .ok (.func fn first cap) w := fun _ _ _ _ => rfl
  generalize hR : clashR h xs ls = R
  unfold clashR at hR
  rw [hEn] at hR
  generalize ls.map (travOf h xs) = ts at hc hk hR
  have hf : Hid (∀ W Bx L tv Bn, BoxL w W Bx L E h tv ts ls → W.cell? ⟨Bn, 0, none⟩ = some (.int .i64 ((h.ln : Nat) : Int)) → Calls Tryz.prog 24 #[.func (.func 68) #[] #[.pointer (some ⟨Bn, 0, none⟩)], .func (.func 26) #[] #[.pointer (some ⟨Bx, 0, none⟩)]] W (Ret (.int .i64 (firstOf ls.length (fun x => !canW h ts ls E x (allS E)))) W)) := fun W Bx L tv Bn k hb => by
    rw [← hnl] at hb
    exact firstC_any ls.length Bn (by omega) (.pointer (some ⟨Bx, 0, none⟩)) _ W hb (fun x Y hY => clash1_any w Bx L E h tv ts ls x Y (k.grown hY))
  generalize firstOf ls.length (fun x => !canW h ts ls E x (allS E)) = r at *
  have he : Hid (∀ W Bx L tv, BoxL w W Bx L E h tv ts ls → Calls Tryz.prog 23 #[.pointer (some ⟨L, 0, none⟩)] W (Ret (.int .i64 (allS E)) W)) := fun W Bx L tv k => k.eyes
  have hl : Hid (∀ W Bx L tv, BoxL w W Bx L E h tv ts ls → Calls Tryz.prog 22 #[.pointer (some ⟨L, 0, none⟩)] W (Ret (.int .i64 (allS ls.length)) W)) := fun W Bx L tv k => k.looks
  have hcan : Hid (∀ W Bx L tv, BoxL w W Bx L E h tv ts ls → Calls Tryz.prog 21 #[.pointer (some ⟨L, 0, none⟩), .int .i64 (allS ls.length), .int .i64 (allS E)] W (Ret (.bool (canW h ts ls E (allS ls.length) (allS E))) W)) := fun W Bx L tv k => k.can _ _
  generalize canW h ts ls E (allS ls.length) (allS E) = cb at *
  generalize allS ls.length = sl at *
  generalize allS E = se at *
  have HR := Lib.hid hR
  clear hv hVW hE hEn hk0 hR
  unfold Wd.val at hc
  go_enter Tryz.func19, Tryz.ntmps19
  go_wp2_with fail
  refine hc.out.mono ?_
  rintro e w1 ⟨L, tv, rfl, hb1, hI⟩
  go_upto_region 2 with fail
  have hX := newB w1 (.cells #[.pointer (some ⟨L, 0, none⟩)] 52)
  have hbox : BoxL w (w1.alloc (.cells #[.pointer (some ⟨L, 0, none⟩)] 52)) w1.heap.size L E h tv ts ls := ⟨one_new _ _ _, hI.grown hX, hlk.out.below (BT hb1 hX), hk.out⟩
  have hBW := BT hb1 hX
  clear c0 c1 c2 c3 c4 c5 c6 c7 hc hX hb1 hI
  generalize w1.heap.size = Bx at hbox ⊢
  generalize w1.alloc (.cells #[.pointer (some ⟨L, 0, none⟩)] 52) = W at *
  have hdr : Below W.heap.size W W.drew := Below.drew (Below.refl _ _)
  have hbox := hbox.grown hdr
  have hBW := BT hBW hdr
  have hbd := hbox.box
  go_wp2_with fail
  refine wp_region_seq [(0, true), (1, true), (3, true), (2, false), (4, false), (5, false)]
    (fun w' => w'.cell? ⟨Bx, 0, none⟩ = some (.pointer (some ⟨L, 0, none⟩))) (by kernel_rfl) (by kernel_rfl) (fun _ _ d _ _ h => by cases d <;> exact h) hbd ?_
  repeat (first | (refine seq_read rfl (by rfl) _ (fun w' hS => by (try dsimp only at hS); go_simp; (try with_reducible rfl)) ?_; (try simp only [Act.put, List.setIfInBounds_toArray, List.set_cons_zero, List.set_cons_succ])) | (refine seq_skip rfl (by rfl) ?_; (try simp only [Act.put, List.setIfInBounds_toArray, List.set_cons_zero, List.set_cons_succ])))
  refine seq_do rfl (by rfl) (fun K hK => ?_)
  go_simp
  refine (hl.out _ _ _ _ hbox).mono ?_
  rintro e w2 ⟨rfl, hb2⟩
  have hbox := hbox.grown hb2
  have hBW := BT hBW hb2
  refine hK _ _ hbox.box ?_
  clear hK K hbd
  have hbd := hbox.box
  (try simp only [Act.put, List.setIfInBounds_toArray, List.set_cons_zero, List.set_cons_succ])
  repeat (first | (refine seq_read rfl (by rfl) _ (fun w' hS => by (try dsimp only at hS); go_simp; (try with_reducible rfl)) ?_; (try simp only [Act.put, List.setIfInBounds_toArray, List.set_cons_zero, List.set_cons_succ])) | (refine seq_skip rfl (by rfl) ?_; (try simp only [Act.put, List.setIfInBounds_toArray, List.set_cons_zero, List.set_cons_succ])))
  refine seq_do rfl (by rfl) (fun K hK => ?_)
  go_simp
  refine (he.out _ _ _ _ hbox).mono ?_
  rintro e w3 ⟨rfl, hb3⟩
  have hbox := hbox.grown hb3
  have hBW := BT hBW hb3
  refine hK _ _ hbox.box ?_
  clear hK K hbd
  have hbd := hbox.box
  (try simp only [Act.put, List.setIfInBounds_toArray, List.set_cons_zero, List.set_cons_succ])
  repeat (first | (refine seq_read rfl (by rfl) _ (fun w' hS => by (try dsimp only at hS); go_simp; (try with_reducible rfl)) ?_; (try simp only [Act.put, List.setIfInBounds_toArray, List.set_cons_zero, List.set_cons_succ])) | (refine seq_skip rfl (by rfl) ?_; (try simp only [Act.put, List.setIfInBounds_toArray, List.set_cons_zero, List.set_cons_succ])))
  refine seq_do rfl (by rfl) (fun K hK => ?_)
  go_simp
  refine (hcan.out _ _ _ _ hbox).mono ?_
  rintro e w4 ⟨rfl, hb4⟩
  have hbox := hbox.grown hb4
  have hBW := BT hBW hb4
  refine hK _ _ hbox.box ?_
  clear hK K hbd
  have hbd := hbox.box
  (try simp only [Act.put, List.setIfInBounds_toArray, List.set_cons_zero, List.set_cons_succ])
  repeat (first | (refine seq_read rfl (by rfl) _ (fun w' hS => by (try dsimp only at hS); go_simp; (try with_reducible rfl)) ?_; (try simp only [Act.put, List.setIfInBounds_toArray, List.set_cons_zero, List.set_cons_succ])) | (refine seq_skip rfl (by rfl) ?_; (try simp only [Act.put, List.setIfInBounds_toArray, List.set_cons_zero, List.set_cons_succ])))
  refine seq_end ?_
  clear hdr
  generalize w4 = W at *
  have hbx := hbox.box
  obtain ⟨k0, k1, k2, k3, k4, k5, k6, k7⟩ := hbox.look.box
  clear k0 k1 k2 k3 k4 k5 k6 he hl hcan
  cases cb
  · have hRn : Hid (R = r) := HR.out.symm
    clear HR
    go_wp2_with fail
    refine (sets_any h.ln _).mono ?_
    rintro e w5 ⟨rfl, rfl⟩
    have hbn := one_new W (.int .i64 ((h.ln : Nat) : Int)) 3
    have hBn := newB W (.cells #[.int .i64 ((h.ln : Nat) : Int)] 3)
    have hbox2 := hbox.grown hBn
    have hBW2 := BT hBW hBn
    clear hbox hBW hBn
    go_wp2_with fail
    refine (hf.out _ _ _ _ _ hbox2 hbn).mono ?_
    rintro e w6 ⟨rfl, hb6⟩
    have hB6 := BT hBW2 hb6
    go_wp2
    go_ret
    exact ⟨by rw [hRn.out]; rfl, hB6⟩
  · have hRn : Hid (R = 0) := HR.out.symm
    clear HR
    go_wp2
    go_ret
    exact ⟨by rw [hRn.out]; rfl, hBW⟩
end Ey
end Go.Proofs.YtcfjakifeihbpaaGreat
