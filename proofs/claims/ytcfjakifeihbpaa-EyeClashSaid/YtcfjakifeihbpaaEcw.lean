/- Eye: the walk of EyeClash. -/
import Derived.Test.YtcfjakifeihbpaaEpw
import Derived.Test.YtcfjakifeihbpaaEcs
namespace Go.Proofs.Ytcfjakifeihbpaa
namespace Ey
open Go.RowKit

structure CG (h : Wd) (xs : List (Int × Int)) (ls : List LkV) (y W D o al g q1 q2 : Int) : Prop where
  sh : wrap64 (wrap64 (2 ^ h.ln) - 1) = al
  w : replyI (clashA h xs ls) = .tuple #[.int .i64 W, .int .i64 0]
  d : replyI (dropA h xs ls) = .tuple #[.int .i64 D, .int .i64 0]
  hab : reply (habitR h xs ls 0) = .tuple #[.agg #[.int .i64 q1, .int .i64 q2], .int .i64 g]
  cs : (W = 0 ∧ D = 0 ∧ g = 0) ∨ (¬ W = 0 ∧ ¬ D = 0 ∧ g = 10 ∧ canB h xs ls W = false)
  rg : ((0 ≤ W ∧ W < 4096) ∧ 0 ≤ D ∧ D < 4096) ∧ (0 ≤ o ∧ o < 4096) ∧ (0 ≤ al ∧ al < 4096) ∧ 0 ≤ al - D ∧ 0 ≤ al - o
  shW : W / 2 ^ h.ln = 0
  shD : D / 2 ^ h.ln = 0
  cd : canB h xs ls (al - D) = true
  bd : bits .andNot .i64 al D = al - D
  bo : bits .andNot .i64 al o = al - o
  own : bits .and .i64 y al = o
  bit : ∀ i : Nat, i < h.ln → setI W i = true → (0 ≤ bits .andNot .i64 W (wrap64 (2 ^ i)) ∧ bits .andNot .i64 W (wrap64 (2 ^ i)) < 4096) ∧ canB h xs ls (bits .andNot .i64 W (wrap64 (2 ^ i))) = true
  mw : ¬ W = 0 → canB h xs ls o = false → ¬ popc o < popc W ∧ ¬ (popc o = popc W ∧ o < W)
  md : canB h xs ls (al - o) = true → ¬ popc o < popc D ∧ ¬ (popc o = popc D ∧ o < D)
theorem clash_ints {h : Wd} {xs : List (Int × Int)} {ls : List LkV} (hv : validW h xs ls = true) (hn : ls.length = h.ln) {y : Int} (hy : 0 ≤ y ∧ y ≤ 65535) : ∃ W D o al g q1 q2, CG h xs ls y W D o al g q1 q2 := by
  obtain ⟨W, D, o, al, g, q1, q2, cf⟩ := clash_facts hv hn hy
  obtain ⟨⟨a1, a2, a3⟩, a4, a5⟩ := cf.lt
  have hpi : (2 : Int) ^ h.ln = ((2 ^ h.ln : Nat) : Int) := by simp
  have hal := cf.hal
  rw [hpi] at hal
  refine ⟨W, D, o, al, g, q1, q2, cf.sh, cf.w, cf.d, cf.hab, ?_, ⟨⟨⟨by omega, by omega⟩, by omega, by omega⟩, ⟨by omega, by omega⟩, ⟨by omega, by omega⟩, by omega, by omega⟩, ?_, ?_, cf.cd, cf.bd, cf.bo, cf.own, fun i hi hs => ?_, fun hW hc => ?_, fun hc => ?_⟩
  · rcases cf.cs with ⟨h1, h2, h3⟩ | ⟨h1, h2, h3, h4⟩
    · exact .inl ⟨by omega, by omega, h3⟩
    · exact .inr ⟨by omega, by omega, h3, h4⟩
  · exact Int.ediv_eq_zero_of_lt (by omega) (by rw [hpi]; omega)
  · exact Int.ediv_eq_zero_of_lt (by omega) (by rw [hpi]; omega)
  · obtain ⟨z, z1, z2, z3⟩ := cf.bit i hi hs
    rw [z1]
    exact ⟨⟨by omega, by omega⟩, z3⟩
  · have := cf.mw (by omega) hc
    omega
  · have := cf.md hc
    omega
set_option maxRecDepth 100000 in
set_option maxHeartbeats 4000000 in
theorem can35_any (B : Nat) (h : Wd) (xs : List (Int × Int)) (ls : List LkV) (set : Int) (w : World) (hm : BoxA w B h xs ls) (hv : validW h xs ls = true) (hs : 0 ≤ set ∧ set < 4096) :
    Calls Try.prog 35 #[.int .i64 set, .pointer (some ⟨B, 0, none⟩)] w (Ret (.bool (canB h xs ls set)) w) := by
  have V := validW_iff hv
  have hHP : ∀ sa cap, ∃ q1 q2, reply (habitR (partH h sa (partS ls set).length cap) xs (partS ls set) 0) = .tuple #[.agg #[.int .i64 q1, .int .i64 q2], .int .i64 (if canB h xs ls set then 0 else 10)] := fun sa cap => by
    obtain ⟨E, hE⟩ : ∃ E : Nat, h.eyes = (E : Int) := ⟨h.eyes.toNat, by have := V.ey; omega⟩
    have hEe : eyesN h = E := by unfold eyesN; rw [hE]; rfl
    have hE1 : 1 ≤ E := by have := V.ey; omega
    have k0 := wok_of hv hm.has.nl hE
    have hpv := part_valid hv set sa (partS ls set).length cap
    have kp : WOk (partH h sa (partS ls set).length cap) ((partS ls set).map (travOf h xs)) (partS ls set) E := wok_of (h := partH h sa _ cap) hpv rfl hE
    have hcc : canB h xs ls set = canW (partH h sa (partS ls set).length cap) ((partS ls set).map (travOf h xs)) (partS ls set) E (allS (partS ls set).length) (allS E) := by
      have h1 : canB h xs ls set = true ↔ ∃ x, TrS h (ls.map (travOf h xs)) ls E set (allS E) x := by unfold canB; rw [hEe]; exact can_iff k0
      have h2 := (can_iff (S := allS (partS ls set).length) (H := allS E) kp)
      have h3 : (∃ x, TrS (partH h sa (partS ls set).length cap) ((partS ls set).map (travOf h xs)) (partS ls set) E (allS (partS ls set).length) (allS E) x) ↔ ∃ x, TrS h (ls.map (travOf h xs)) ls E set (allS E) x :=
        ⟨fun ⟨x, hx⟩ => ⟨x, (part_tr k0.l12 _ _ sa _ cap x).1 hx⟩, fun ⟨x, hx⟩ => ⟨x, (part_tr k0.l12 _ _ sa _ cap x).2 hx⟩⟩
      rw [Bool.eq_iff_iff]
      exact h1.trans (h3.symm.trans h2.symm)
    have hH : habitR (partH h sa (partS ls set).length cap) xs (partS ls set) 0 = askR (ovB (partH h sa (partS ls set).length cap) ((partS ls set).map (travOf h xs)) (partS ls set) E (allS (partS ls set).length) (allS E) 0) 1 := by
      unfold habitR
      rw [hpv, img_iff.2 (show (0 : Int) ≤ 0 ∧ (0 : Int) < (partH h sa (partS ls set).length cap).eyes from ⟨by omega, by show (0 : Int) < h.eyes; omega⟩)]
      unfold ovW
      rw [show (partH h sa (partS ls set).length cap).eyes.toNat = E from hEe]
      rfl
    rw [hH, hcc]
    cases ho : ovB (partH h sa (partS ls set).length cap) ((partS ls set).map (travOf h xs)) (partS ls set) E (allS (partS ls set).length) (allS E) 0 with
    | none =>
      rw [(ov_none kp (.inl rfl)).1 ho]
      exact ⟨0, 0, rfl⟩
    | some b =>
      obtain ⟨s, es, _⟩ := (ov_some kp (.inl rfl) ho).2.1 1 (.inr (.inl ⟨0, by omega, rfl⟩))
      rw [(can_iff kp).2 (ov_some kp (.inl rfl) ho).1]
      exact ⟨s.1, s.2, by unfold askR; dsimp only; rw [es]; rfl⟩
  have HPS := Lib.hid hHP
  have hpt := part_any h xs ls set w hm.has V.l12 hs
  unfold Wd.val at hpt
  obtain ⟨⟨c0, c1, c2, c3, c4, c5, c6, c7⟩, hh⟩ := hm
  generalize canB h xs ls set = b at *
  generalize partS ls set = ps at *
  clear hh hHP V hv
  have HPT := Lib.hid hpt
  clear hpt
  go_enter Try.func35, Try.ntmps35
  go_wp2_with fail
  refine HPT.out.mono ?_
  rintro e w1 ⟨sa, cap, rfl, hm1, hb1⟩
  clear HPT c0 c1 c2 c3 c4 c5 c6 c7
  obtain ⟨lo, hi, hr⟩ := HPS.out sa cap
  have hsu := habit_any 0 (partH h sa ps.length cap) xs ps w1 hm1
  rw [hr] at hsu
  unfold Wd.val partH at hsu
  unfold partH
  dsimp only at hsu ⊢
  have HSU := Lib.hid hsu
  clear hr hsu HPS hm1
  go_wp2_with fail
  refine HSU.out.mono ?_
  rintro e w2 ⟨rfl, hb2⟩
  have hB2 := BT hb1 hb2
  have hB3 := BT (BT hb1 hb2) (newB w2 (.cells #[.int .i64 lo, .int .i64 hi] 24))
  clear HSU hb1 hb2
  cases b
  all_goals
    go_wp2
    go_ret
    exact ⟨rfl, by first | exact hB2 | exact hB3⟩
set_option maxRecDepth 100000 in
set_option maxHeartbeats 16000000 in
theorem clash_walk (h : Wd) (xs : List (Int × Int)) (ls : List LkV) (y : Int) (w : World) (hm : HasW w h xs ls) (hy : 0 ≤ y ∧ y ≤ 65535) :
    Calls Try.prog 8 #[h.val, .int .u16 y] w (Ret (.bool true) w) := by
  have hmf : ∀ (fn : Fn) (first cap : Array Value) (w : World), (Instr.makeFunc fn first cap).run Try.prog w = .ok (.func fn first cap) w := fun _ _ _ _ => rfl
  have hX := newB w (.cells #[.slice h.a h.n h.cap, .int .i64 h.eLo, .int .i64 h.eHi, .int .i64 h.images, .int .i64 h.eyes, .int .i64 h.hLo, .int .i64 h.hHi, .slice h.la h.ln h.lcap] 29)
  obtain ⟨c0, c1, c2, c3, c4, c5, c6, c7⟩ := boxW_new w h 29
  have HB : Hid (BoxA _ _ h xs ls) := (⟨⟨c0, c1, c2, c3, c4, c5, c6, c7⟩, hm.below hX⟩ : BoxA _ _ h xs ls)
  have hfar : Hid (∀ Y, Below w.heap.size w Y → Calls Try.prog 12 #[h.val, .int .i64 9] Y (Ret (.bool (farB h xs ls 9)) Y)) := fun Y hY => far_any h xs ls 9 Y (hm.below hY)
  have hwat : Hid (∀ Y, Below w.heap.size w Y → farB h xs ls 9 = false → Calls Try.prog 33 #[h.val] Y (Ret (.bool (validW h xs ls)) Y)) := fun Y hY hf => watchR_any h xs ls Y (hm.below hY) (farB_le hf).2 (farB_le hf).1
  have hcl : Hid (∀ Y, Below w.heap.size w Y → Calls Try.prog 22 #[h.val] Y (Ret (replyI (clashA h xs ls)) Y)) := fun Y hY => clash_any h xs ls Y (hm.below hY)
  have hdr : Hid (∀ Y, Below w.heap.size w Y → Calls Try.prog 24 #[h.val] Y (Ret (replyI (dropA h xs ls)) Y)) := fun Y hY => drop_any h xs ls Y (hm.below hY)
  have hha : Hid (∀ Y, Below w.heap.size w Y → Calls Try.prog 14 #[h.val, .int .i64 0] Y (Ret (reply (habitR h xs ls 0)) Y)) := fun Y hY => habit_any 0 h xs ls Y (hm.below hY)
  have hnl := Lib.hid hm.nl
  obtain ⟨hy0, hy1⟩ := hy
  clear hm
  unfold Wd.val at hfar hwat hcl hdr hha ⊢
  go_enter Try.func8, Try.ntmps8
  go_wp2_with fail
  refine (hfar.out _ hX).mono ?_
  rintro e w1 ⟨rfl, hx1⟩
  cases hf : farB h xs ls 9 with
  | true =>
    have hB := BT hX hx1
    go_wp2_with fail
    refine (awake_any _).mono ?_
    rintro e w2 ⟨rfl, hb2⟩
    have hB2 := BT hB hb2
    go_wp2
    go_ret
    exact ⟨rfl, hB2⟩
  | false =>
  have hB := BT hX hx1
  have HB := Lib.hid (HB.out.grown hx1)
  clear c0 c1 c2 c3 c4 c5 c6 c7 hfar hX hx1
  cases hv : validW h xs ls with
  | false =>
    have e1 : replyI (clashA h xs ls) = .tuple #[.int .i64 0, .int .i64 1] := by unfold clashA; rw [hv]; rfl
    have e2 : replyI (dropA h xs ls) = .tuple #[.int .i64 0, .int .i64 1] := by unfold dropA; rw [hv]; rfl
    have e3 : reply (habitR h xs ls 0) = .tuple #[.agg #[.int .i64 0, .int .i64 0], .int .i64 1] := by unfold habitR; rw [hv]; rfl
    obtain ⟨⟨c0, c1, c2, c3, c4, c5, c6, c7⟩, hh⟩ := HB.out
    clear hh
    go_wp2_with fail
    refine (hcl.out _ hB).mono ?_
    rw [e1]
    rintro e z0 ⟨rfl, hz⟩
    have hB := BT hB hz
    have HB := Lib.hid (HB.out.grown hz)
    clear c0 c1 c2 c3 c4 c5 c6 c7 hz
    obtain ⟨⟨c0, c1, c2, c3, c4, c5, c6, c7⟩, hh⟩ := HB.out
    clear hh
    go_wp2_with fail
    refine (hdr.out _ hB).mono ?_
    rw [e2]
    rintro e z1 ⟨rfl, hz⟩
    have hB := BT hB hz
    have HB := Lib.hid (HB.out.grown hz)
    clear c0 c1 c2 c3 c4 c5 c6 c7 hz
    obtain ⟨⟨c0, c1, c2, c3, c4, c5, c6, c7⟩, hh⟩ := HB.out
    clear hh
    go_wp2_with fail
    refine (hha.out _ hB).mono ?_
    rw [e3]
    rintro e z2 ⟨rfl, hz⟩
    have hB := BT hB hz
    have HB := Lib.hid (HB.out.grown hz)
    clear c0 c1 c2 c3 c4 c5 c6 c7 hz
    have hN := newB z2 (.cells #[.int .i64 0, .int .i64 0] 24)
    have hB := BT hB hN
    have HB := Lib.hid (HB.out.grown hN)
    clear hN
    go_upto_region 6 with fail
    generalize z2.alloc (.cells #[.int .i64 0, .int .i64 0] 24) = Z at *
    obtain ⟨⟨c0, c1, c2, c3, c4, c5, c6, c7⟩, hh⟩ := HB.out
    clear hh
    go_wp2_with fail
    refine (hwat.out _ hB hf).mono ?_
    rw [hv]
    rintro e x1 ⟨rfl, hz⟩
    have hB := BT hB hz
    clear hz
    go_wp2_with fail
    refine (awake_any _).mono ?_
    rintro e wz ⟨rfl, hz⟩
    have hB := BT hB hz
    go_wp2
    go_ret
    exact ⟨rfl, hB⟩
  | true =>
  have HVW := validW_iff hv
  have hl12 : h.ln ≤ 12 := by rw [← hnl.out]; exact HVW.l12
  obtain ⟨W, D, o, al, g, q1, q2, cg⟩ := clash_ints hv hnl.out ⟨hy0, hy1⟩
  have CG' := Lib.hid cg
  have HV := Lib.hid hv
  clear cg HVW
  obtain ⟨⟨c0, c1, c2, c3, c4, c5, c6, c7⟩, hh⟩ := HB.out
  clear hh
  go_wp2_with fail
  refine (hcl.out _ hB).mono ?_
  rw [CG'.out.w]
  rintro e z0 ⟨rfl, hz⟩
  have hB := BT hB hz
  have HB := Lib.hid (HB.out.grown hz)
  clear c0 c1 c2 c3 c4 c5 c6 c7 hz
  obtain ⟨⟨c0, c1, c2, c3, c4, c5, c6, c7⟩, hh⟩ := HB.out
  clear hh
  go_wp2_with fail
  refine (hdr.out _ hB).mono ?_
  rw [CG'.out.d]
  rintro e z1 ⟨rfl, hz⟩
  have hB := BT hB hz
  have HB := Lib.hid (HB.out.grown hz)
  clear c0 c1 c2 c3 c4 c5 c6 c7 hz
  obtain ⟨⟨c0, c1, c2, c3, c4, c5, c6, c7⟩, hh⟩ := HB.out
  clear hh
  go_wp2_with fail
  refine (hha.out _ hB).mono ?_
  rw [CG'.out.hab]
  rintro e z2 ⟨rfl, hz⟩
  have hB := BT hB hz
  have HB := Lib.hid (HB.out.grown hz)
  clear c0 c1 c2 c3 c4 c5 c6 c7 hz
  have hN := newB z2 (.cells #[.int .i64 q1, .int .i64 q2] 24)
  have hB := BT hB hN
  have HB := Lib.hid (HB.out.grown hN)
  clear hN
  go_upto_region 6 with fail
  generalize z2.alloc (.cells #[.int .i64 q1, .int .i64 q2] 24) = Z at *
  obtain ⟨⟨⟨hW0, hW1⟩, hD0, hD1⟩, ⟨ho0, ho1⟩, ⟨ha0, ha1⟩, had, hao⟩ := CG'.out.rg
  have hsW := CG'.out.shW
  have hsD := CG'.out.shD
  have hln0 : (h.ln : Int) ≤ 12 := by omega
  obtain ⟨⟨c0, c1, c2, c3, c4, c5, c6, c7⟩, hh⟩ := HB.out
  clear hh
  have hwat2 := Lib.hid (fun Y hY => hwat.out Y hY hf)
  rw [hv] at hwat2
  clear hwat hf hv
  have hn0 : ¬ W < 0 := by omega
  have hn1 : ¬ D < 0 := by omega
  have hsh := CG'.out.sh
  have how := CG'.out.own
  have hbd := CG'.out.bd
  have hbo := CG'.out.bo
  have hcd : Hid (∀ Y, BoxA Y w.heap.size h xs ls → Calls Try.prog 35 #[.int .i64 (al - D), .pointer (some ⟨w.heap.size, 0, none⟩)] Y (Ret (.bool true) Y)) := fun Y hY => by rw [← CG'.out.cd]; exact can35_any w.heap.size h xs ls (al - D) Y hY HV.out ⟨by omega, by omega⟩
  have hbit : Hid (∀ i : Nat, i < h.ln → (bits .and .i64 (W / 2 ^ i) 1 == 1) = setI W i) := fun i hi => bit_set ⟨hW0, hW1⟩ (by omega)
  have hcb : Hid (∀ i : Nat, i < h.ln → setI W i = true → ∀ Y, BoxA Y w.heap.size h xs ls → Calls Try.prog 35 #[.int .i64 (bits .andNot .i64 W (wrap64 (2 ^ i))), .pointer (some ⟨w.heap.size, 0, none⟩)] Y (Ret (.bool true) Y)) := fun i hi hs Y hY => by
    obtain ⟨b1, b2⟩ := CG'.out.bit i hi hs
    rw [← b2]; exact can35_any w.heap.size h xs ls _ Y hY HV.out b1
  have hcn : Hid (∀ q : Int, 0 ≤ q ∧ q < 4096 → ∀ Y, BoxA Y w.heap.size h xs ls → Calls Try.prog 35 #[.int .i64 q, .pointer (some ⟨w.heap.size, 0, none⟩)] Y (Ret (.bool (canB h xs ls q)) Y)) := fun q hq Y hY => can35_any w.heap.size h xs ls q Y hY HV.out hq
  rcases CG'.out.cs with ⟨z1, z2, z3⟩ | ⟨z1, z2, z3, z4⟩
  · subst z1
    subst z2
    subst z3
    have hbd' : bits .andNot .i64 al 0 = al := by rw [hbd]; omega
    have hcd' : Hid (∀ Y, BoxA Y w.heap.size h xs ls → Calls Try.prog 35 #[.int .i64 al, .pointer (some ⟨w.heap.size, 0, none⟩)] Y (Ret (.bool true) Y)) := fun Y hY => by
      have := hcd.out Y hY
      rw [Int.sub_zero] at this
      exact this
    have hz0 : Hid (∀ i : Nat, i < h.ln → setI 0 i = false) := fun i hi => by
      rw [← hbit.out i hi]; rw [Int.zero_ediv]; decide
    clear hcb hbd hcd
    go_wp2_with fail
    refine (hwat2.out _ hB).mono ?_
    rintro e x1 ⟨rfl, hz⟩
    have hB := BT hB hz
    have HB := Lib.hid (HB.out.grown hz)
    clear hz c0 c1 c2 c3 c4 c5 c6 c7
    go_wp2_with fail
    refine (hcd'.out _ HB.out).mono ?_
    rintro e k13b ⟨rfl, hz⟩
    have hB := BT hB hz
    have HB := Lib.hid (HB.out.grown hz)
    clear hz
    clear hcd'
    clear hbd'
    clear hwat2
    go_upto_region 16 with fail
    go_loopw [137] (fun p wr => ∃ k : Nat, k ≤ h.ln ∧ p = .int .i64 k ∧ BoxA wr w.heap.size h xs ls ∧ Below w.heap.size w wr) (fun p _ => h.ln - (intOf p).toNat)
    case atStart => exact ⟨0, by omega, rfl, HB.out, hB⟩
    case round =>
      obtain ⟨k, hk, rfl, hbx, hB⟩ := hrel
      have HB := Lib.hid hbx
      clear hbx
      by_cases hlt : k < h.ln
      · have hlt' : (k : Int) < (h.ln : Int) := by omega
        have hk0 : (0 : Int) ≤ (k : Int) := by omega
        have hk12 : (k : Int) ≤ 12 := by omega
        have hbt := hbit.out k hlt
        rw [hz0.out k hlt] at hbt
        go_wp2_with fail
        go_roundw
        case rel => exact ⟨k + 1, by omega, by go_num, HB.out, hB⟩
        case measure => simp [intOf]; omega
      · obtain rfl : k = h.ln := by omega
        clear hbit hz0
        have hmd := Lib.hid CG'.out.md
        cases hb25 : canB h xs ls (al - o)
        · have hcan25 := hcn.out (al - o) ⟨hao, by omega⟩
          rw [hb25] at hcan25
          have hcan25 := Lib.hid hcan25
          clear hb25 hmd
          go_wp2_with fail
          refine (hcan25.out _ HB.out).mono ?_
          rintro e k25a ⟨rfl, hz⟩
          have hB := BT hB hz
          have HB := Lib.hid (HB.out.grown hz)
          clear hz
          go_wp2_with fail
          refine (awake_any _).mono ?_
          rintro e wz ⟨rfl, hz⟩
          have hB := BT hB hz
          go_wp2
          go_ret
          exact ⟨rfl, hB⟩
        · have hcan25 := hcn.out (al - o) ⟨hao, by omega⟩
          rw [hb25] at hcan25
          have hcan25 := Lib.hid hcan25
          have MM := Lib.hid (hmd.out hb25)
          clear hb25 hmd
          go_wp2_with fail
          refine (hcan25.out _ HB.out).mono ?_
          rintro e k25b ⟨rfl, hz⟩
          have hB := BT hB hz
          have HB := Lib.hid (HB.out.grown hz)
          clear hz
          have hso := Lib.hid (sizeR_any o ⟨ho0, ho1⟩)
          have hsd := Lib.hid (sizeR_any 0 ⟨hD0, hD1⟩)
          clear HB CG' HV hcn
          generalize popc o = po at *
          generalize popc 0 = pd at *
          have m1 : ¬ po < pd := by have := MM.out.1; omega
          go_wp2_with fail
          refine (hso.out _).mono ?_
          rintro e q1 ⟨rfl, hz⟩
          have hB := BT hB hz
          clear hz
          go_wp2_with fail
          refine (hsd.out _).mono ?_
          rintro e q2 ⟨rfl, hz⟩
          have hB := BT hB hz
          clear hz
          go_wp2_with fail
          refine (hso.out _).mono ?_
          rintro e q3 ⟨rfl, hz⟩
          have hB := BT hB hz
          clear hz
          go_wp2_with fail
          refine (hsd.out _).mono ?_
          rintro e q4 ⟨rfl, hz⟩
          have hB := BT hB hz
          clear hz
          have n1 : decide (po < pd) = false := decide_eq_false (by have := MM.out.1; omega)
          by_cases hpe : po = pd
          · have n2 : decide (o < 0) = false := decide_eq_false (by have hm := MM.out.2; omega)
            subst hpe
            go_wp2_with fail
            refine (awake_any _).mono ?_
            rintro e wz ⟨rfl, hz⟩
            have hB := BT hB hz
            go_wp2
            go_ret
            exact ⟨by first | rfl | (show Ending.returned (Value.bool !decide (o < 0)) = _; rw [n2]; rfl), hB⟩
          · have n3 : (po == pd) = false := beq_eq_false_iff_ne.2 hpe
            go_wp2_with fail
            refine (awake_any _).mono ?_
            rintro e wz ⟨rfl, hz⟩
            have hB := BT hB hz
            go_wp2
            go_ret
            exact ⟨by first | rfl | (show Ending.returned (Value.bool !decide (po < pd)) = _; rw [n1]; rfl), hB⟩
  · have hcd' := Lib.hid hcd.out
    have hcw := hcn.out W ⟨hW0, hW1⟩
    rw [z4] at hcw
    have hcw := Lib.hid hcw
    clear hcd
    have hb1 : (W == 0) = false := beq_eq_false_iff_ne.2 z1
    have hb2 : (D == 0) = false := beq_eq_false_iff_ne.2 z2
    go_wp2_with fail
    refine (hwat2.out _ hB).mono ?_
    rintro e x1 ⟨rfl, hz⟩
    have hB := BT hB hz
    have HB := Lib.hid (HB.out.grown hz)
    clear hz c0 c1 c2 c3 c4 c5 c6 c7
    go_wp2_with fail
    refine (hcw.out _ HB.out).mono ?_
    rintro e k13a ⟨rfl, hz⟩
    have hB := BT hB hz
    have HB := Lib.hid (HB.out.grown hz)
    clear hz
    go_wp2_with fail
    refine (hcd'.out _ HB.out).mono ?_
    rintro e k13b ⟨rfl, hz⟩
    have hB := BT hB hz
    have HB := Lib.hid (HB.out.grown hz)
    clear hz
    clear hcd' hcw
    clear hbd
    clear hwat2
    go_upto_region 16 with fail
    go_loopw [137] (fun p wr => ∃ k : Nat, k ≤ h.ln ∧ p = .int .i64 k ∧ BoxA wr w.heap.size h xs ls ∧ Below w.heap.size w wr) (fun p _ => h.ln - (intOf p).toNat)
    case atStart => exact ⟨0, by omega, rfl, HB.out, hB⟩
    case round =>
      obtain ⟨k, hk, rfl, hbx, hB⟩ := hrel
      have HB := Lib.hid hbx
      clear hbx
      by_cases hlt : k < h.ln
      · have hlt' : (k : Int) < (h.ln : Int) := by omega
        have hk0 : (0 : Int) ≤ (k : Int) := by omega
        have hk12 : (k : Int) ≤ 12 := by omega
        have hbt := hbit.out k hlt
        cases hs : setI W k
        · rw [hs] at hbt
          clear hs
          go_wp2_with fail
          go_roundw
          case rel => exact ⟨k + 1, by omega, by go_num, HB.out, hB⟩
          case measure => simp [intOf]; omega
        · have hct := Lib.hid (hcb.out k hlt hs)
          rw [hs] at hbt
          clear hs
          go_wp2_with fail
          refine (hct.out _ HB.out).mono ?_
          rintro e kk ⟨rfl, hz⟩
          have hB := BT hB hz
          have HB := Lib.hid (HB.out.grown hz)
          clear hz hct
          go_wp2_with fail
          go_roundw
          case rel => exact ⟨k + 1, by omega, by go_num, HB.out, hB⟩
          case measure => simp [intOf]; omega
      · obtain rfl : k = h.ln := by omega
        clear hbit hcb
        have hmw := Lib.hid CG'.out.mw
        have hco := hcn.out o ⟨ho0, ho1⟩
        cases hbo2 : canB h xs ls o
        · rw [hbo2] at hco
          have hco := Lib.hid hco
          obtain ⟨m1, m2⟩ := hmw.out z1 hbo2
          clear hmw hbo2
          go_wp2_with fail
          refine (hco.out _ HB.out).mono ?_
          rintro e k23a ⟨rfl, hz⟩
          have hB := BT hB hz
          have HB := Lib.hid (HB.out.grown hz)
          clear hz
          have hso := Lib.hid (sizeR_any o ⟨ho0, ho1⟩)
          have hsw := Lib.hid (sizeR_any W ⟨hW0, hW1⟩)
          have hpp : ∃ p : Int, p = popc o := ⟨_, rfl⟩
          obtain ⟨pp, hpp⟩ := hpp
          have hpw : ∃ p : Int, p = popc W := ⟨_, rfl⟩
          obtain ⟨pw, hpw⟩ := hpw
          rw [← hpp] at hso m1 m2
          rw [← hpw] at hsw m1 m2
          have hso := Lib.hid hso.out
          have hsw := Lib.hid hsw.out
          have hpp := Lib.hid hpp
          clear hpw
          go_wp2_with fail
          refine (hso.out _).mono ?_
          rintro e s23a ⟨rfl, hz⟩
          have hB := BT hB hz
          have HB := Lib.hid (HB.out.grown hz)
          clear hz
          go_wp2_with fail
          refine (hsw.out _).mono ?_
          rintro e s23b ⟨rfl, hz⟩
          have hB := BT hB hz
          have HB := Lib.hid (HB.out.grown hz)
          clear hz
          go_wp2_with fail
          refine (hso.out _).mono ?_
          rintro e s23c ⟨rfl, hz⟩
          have hB := BT hB hz
          have HB := Lib.hid (HB.out.grown hz)
          clear hz
          go_wp2_with fail
          refine (hsw.out _).mono ?_
          rintro e s23d ⟨rfl, hz⟩
          have hB := BT hB hz
          have HB := Lib.hid (HB.out.grown hz)
          clear hz
          clear hso hsw
          by_cases hpe : pp = pw
          · have m3 : ¬ o < W := fun hlt => m2 ⟨hpe, hlt⟩
            subst hpe
            clear m2
            have hmd := Lib.hid CG'.out.md
            cases hb25 : canB h xs ls (al - o)
            · have hcan25 := hcn.out (al - o) ⟨hao, by omega⟩
              rw [hb25] at hcan25
              have hcan25 := Lib.hid hcan25
              clear hb25 hmd
              go_wp2_with fail
              refine (hcan25.out _ HB.out).mono ?_
              rintro e k25a ⟨rfl, hz⟩
              have hB := BT hB hz
              have HB := Lib.hid (HB.out.grown hz)
              clear hz
              go_wp2_with fail
              refine (awake_any _).mono ?_
              rintro e wz ⟨rfl, hz⟩
              have hB := BT hB hz
              go_wp2
              go_ret
              exact ⟨rfl, hB⟩
            · have hcan25 := hcn.out (al - o) ⟨hao, by omega⟩
              rw [hb25] at hcan25
              have hcan25 := Lib.hid hcan25
              have MM := Lib.hid (hmd.out hb25)
              clear hb25 hmd
              go_wp2_with fail
              refine (hcan25.out _ HB.out).mono ?_
              rintro e k25b ⟨rfl, hz⟩
              have hB := BT hB hz
              have HB := Lib.hid (HB.out.grown hz)
              clear hz
              have hso := Lib.hid (sizeR_any o ⟨ho0, ho1⟩)
              have hsd := Lib.hid (sizeR_any D ⟨hD0, hD1⟩)
              clear HB CG' HV hcn
              generalize popc o = po at *
              generalize popc D = pd at *
              have m1 : ¬ po < pd := by have := MM.out.1; omega
              go_wp2_with fail
              refine (hso.out _).mono ?_
              rintro e q1 ⟨rfl, hz⟩
              have hB := BT hB hz
              clear hz
              go_wp2_with fail
              refine (hsd.out _).mono ?_
              rintro e q2 ⟨rfl, hz⟩
              have hB := BT hB hz
              clear hz
              go_wp2_with fail
              refine (hso.out _).mono ?_
              rintro e q3 ⟨rfl, hz⟩
              have hB := BT hB hz
              clear hz
              go_wp2_with fail
              refine (hsd.out _).mono ?_
              rintro e q4 ⟨rfl, hz⟩
              have hB := BT hB hz
              clear hz
              have n1 : decide (po < pd) = false := decide_eq_false (by have := MM.out.1; omega)
              by_cases hpe : po = pd
              · have n2 : decide (o < D) = false := decide_eq_false (by have hm := MM.out.2; omega)
                subst hpe
                go_wp2_with fail
                refine (awake_any _).mono ?_
                rintro e wz ⟨rfl, hz⟩
                have hB := BT hB hz
                go_wp2
                go_ret
                exact ⟨by first | rfl | (show Ending.returned (Value.bool !decide (o < D)) = _; rw [n2]; rfl), hB⟩
              · have n3 : (po == pd) = false := beq_eq_false_iff_ne.2 hpe
                go_wp2_with fail
                refine (awake_any _).mono ?_
                rintro e wz ⟨rfl, hz⟩
                have hB := BT hB hz
                go_wp2
                go_ret
                exact ⟨by first | rfl | (show Ending.returned (Value.bool !decide (po < pd)) = _; rw [n1]; rfl), hB⟩
          · clear m2
            have hmd := Lib.hid CG'.out.md
            cases hb25 : canB h xs ls (al - o)
            · have hcan25 := hcn.out (al - o) ⟨hao, by omega⟩
              rw [hb25] at hcan25
              have hcan25 := Lib.hid hcan25
              clear hb25 hmd
              go_wp2_with fail
              refine (hcan25.out _ HB.out).mono ?_
              rintro e k25a ⟨rfl, hz⟩
              have hB := BT hB hz
              have HB := Lib.hid (HB.out.grown hz)
              clear hz
              go_wp2_with fail
              refine (awake_any _).mono ?_
              rintro e wz ⟨rfl, hz⟩
              have hB := BT hB hz
              go_wp2
              go_ret
              exact ⟨rfl, hB⟩
            · have hcan25 := hcn.out (al - o) ⟨hao, by omega⟩
              rw [hb25] at hcan25
              have hcan25 := Lib.hid hcan25
              have MM := Lib.hid (hmd.out hb25)
              clear hb25 hmd
              go_wp2_with fail
              refine (hcan25.out _ HB.out).mono ?_
              rintro e k25b ⟨rfl, hz⟩
              have hB := BT hB hz
              have HB := Lib.hid (HB.out.grown hz)
              clear hz
              have hso := Lib.hid (sizeR_any o ⟨ho0, ho1⟩)
              have hsd := Lib.hid (sizeR_any D ⟨hD0, hD1⟩)
              clear HB CG' HV hcn
              generalize popc o = po at *
              generalize popc D = pd at *
              have m1 : ¬ po < pd := by have := MM.out.1; omega
              go_wp2_with fail
              refine (hso.out _).mono ?_
              rintro e q1 ⟨rfl, hz⟩
              have hB := BT hB hz
              clear hz
              go_wp2_with fail
              refine (hsd.out _).mono ?_
              rintro e q2 ⟨rfl, hz⟩
              have hB := BT hB hz
              clear hz
              go_wp2_with fail
              refine (hso.out _).mono ?_
              rintro e q3 ⟨rfl, hz⟩
              have hB := BT hB hz
              clear hz
              go_wp2_with fail
              refine (hsd.out _).mono ?_
              rintro e q4 ⟨rfl, hz⟩
              have hB := BT hB hz
              clear hz
              have n1 : decide (po < pd) = false := decide_eq_false (by have := MM.out.1; omega)
              by_cases hpe : po = pd
              · have n2 : decide (o < D) = false := decide_eq_false (by have hm := MM.out.2; omega)
                subst hpe
                go_wp2_with fail
                refine (awake_any _).mono ?_
                rintro e wz ⟨rfl, hz⟩
                have hB := BT hB hz
                go_wp2
                go_ret
                exact ⟨by first | rfl | (show Ending.returned (Value.bool !decide (o < D)) = _; rw [n2]; rfl), hB⟩
              · have n3 : (po == pd) = false := beq_eq_false_iff_ne.2 hpe
                go_wp2_with fail
                refine (awake_any _).mono ?_
                rintro e wz ⟨rfl, hz⟩
                have hB := BT hB hz
                go_wp2
                go_ret
                exact ⟨by first | rfl | (show Ending.returned (Value.bool !decide (po < pd)) = _; rw [n1]; rfl), hB⟩
        · rw [hbo2] at hco
          have hco := Lib.hid hco
          clear hmw hbo2
          go_wp2_with fail
          refine (hco.out _ HB.out).mono ?_
          rintro e k23a ⟨rfl, hz⟩
          have hB := BT hB hz
          have HB := Lib.hid (HB.out.grown hz)
          clear hz
          have hmd := Lib.hid CG'.out.md
          cases hb25 : canB h xs ls (al - o)
          · have hcan25 := hcn.out (al - o) ⟨hao, by omega⟩
            rw [hb25] at hcan25
            have hcan25 := Lib.hid hcan25
            clear hb25 hmd
            go_wp2_with fail
            refine (hcan25.out _ HB.out).mono ?_
            rintro e k25a ⟨rfl, hz⟩
            have hB := BT hB hz
            have HB := Lib.hid (HB.out.grown hz)
            clear hz
            go_wp2_with fail
            refine (awake_any _).mono ?_
            rintro e wz ⟨rfl, hz⟩
            have hB := BT hB hz
            go_wp2
            go_ret
            exact ⟨rfl, hB⟩
          · have hcan25 := hcn.out (al - o) ⟨hao, by omega⟩
            rw [hb25] at hcan25
            have hcan25 := Lib.hid hcan25
            have MM := Lib.hid (hmd.out hb25)
            clear hb25 hmd
            go_wp2_with fail
            refine (hcan25.out _ HB.out).mono ?_
            rintro e k25b ⟨rfl, hz⟩
            have hB := BT hB hz
            have HB := Lib.hid (HB.out.grown hz)
            clear hz
            have hso := Lib.hid (sizeR_any o ⟨ho0, ho1⟩)
            have hsd := Lib.hid (sizeR_any D ⟨hD0, hD1⟩)
            clear HB CG' HV hcn
            generalize popc o = po at *
            generalize popc D = pd at *
            have m1 : ¬ po < pd := by have := MM.out.1; omega
            go_wp2_with fail
            refine (hso.out _).mono ?_
            rintro e q1 ⟨rfl, hz⟩
            have hB := BT hB hz
            clear hz
            go_wp2_with fail
            refine (hsd.out _).mono ?_
            rintro e q2 ⟨rfl, hz⟩
            have hB := BT hB hz
            clear hz
            go_wp2_with fail
            refine (hso.out _).mono ?_
            rintro e q3 ⟨rfl, hz⟩
            have hB := BT hB hz
            clear hz
            go_wp2_with fail
            refine (hsd.out _).mono ?_
            rintro e q4 ⟨rfl, hz⟩
            have hB := BT hB hz
            clear hz
            have n1 : decide (po < pd) = false := decide_eq_false (by have := MM.out.1; omega)
            by_cases hpe : po = pd
            · have n2 : decide (o < D) = false := decide_eq_false (by have hm := MM.out.2; omega)
              subst hpe
              go_wp2_with fail
              refine (awake_any _).mono ?_
              rintro e wz ⟨rfl, hz⟩
              have hB := BT hB hz
              go_wp2
              go_ret
              exact ⟨by first | rfl | (show Ending.returned (Value.bool !decide (o < D)) = _; rw [n2]; rfl), hB⟩
            · have n3 : (po == pd) = false := beq_eq_false_iff_ne.2 hpe
              go_wp2_with fail
              refine (awake_any _).mono ?_
              rintro e wz ⟨rfl, hz⟩
              have hB := BT hB hz
              go_wp2
              go_ret
              exact ⟨by first | rfl | (show Ending.returned (Value.bool !decide (po < pd)) = _; rw [n1]; rfl), hB⟩
end Ey
end Go.Proofs.Ytcfjakifeihbpaa
