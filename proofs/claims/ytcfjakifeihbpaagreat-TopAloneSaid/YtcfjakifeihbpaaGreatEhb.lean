/- Eye: the closures of Habit, Place and Between. -/
import Derived.Test.YtcfjakifeihbpaaGreatEwk
namespace Go.Proofs.YtcfjakifeihbpaaGreat
namespace Ey
open Go.RowKit Nb

theorem isImg_nat {n : Int} {i : Int} (h : isImg n i = true) : ∃ j : Nat, i = j ∧ (j : Int) < n := by
  rw [img_iff] at h
  exact ⟨i.toNat, by omega, by omega⟩
set_option maxRecDepth 100000 in
set_option maxHeartbeats 2000000 in
theorem habitC_no (B C : Nat) (h : Wd) (xs : List (Int × Int)) (ls : List LkV) (w : World) (hm : BoxA w B h xs ls) (hv : validW h xs ls = false) : Calls Tryz.prog 54 #[.pointer (some ⟨B, 0, none⟩), .pointer (some ⟨C, 0, none⟩)] w (Pan 1 w) := by
  have hZ := newB w (.cells #[.int .i64 0, .int .i64 0] 24)
  obtain ⟨⟨c0, c1, c2, c3, c4, c5, c6, c7⟩, _⟩ := hm.grown hZ
  have hc : Hid (∀ Y, Below w.heap.size w Y → Calls Tryz.prog 20 #[h.val] Y (Pan 1 Y)) := fun Y hY => lookAt_no h xs ls Y (hm.has.below hY) hv
  clear hm hv
  unfold Wd.val at hc
  go_enter Tryz.func54, Tryz.ntmps54
  go_wp2_with fail
  refine (hc.out _ hZ).mono ?_
  rintro e w1 ⟨rfl, hb1⟩
  have hB := BT hZ hb1
  go_wp2
  exact ⟨rfl, rfl, hB⟩
set_option maxRecDepth 100000 in
set_option maxHeartbeats 1000000 in
theorem habitC_yes (B C : Nat) (i : Int) (h : Wd) (xs : List (Int × Int)) (ls : List LkV) (w : World) (hm : BoxA w B h xs ls) (hcc : w.cell? ⟨C, 0, none⟩ = some (.int .i64 i)) (hv : validW h xs ls = true) :
    Calls Tryz.prog 54 #[.pointer (some ⟨B, 0, none⟩), .pointer (some ⟨C, 0, none⟩)] w (Out (if isImg h.eyes i then askR (ovW h xs ls 0) (1 + i.toNat) else .error 2) w) := by
  have hZ := newB w (.cells #[.int .i64 0, .int .i64 0] 24)
  have hVW := validW_iff hv
  obtain ⟨E, hE⟩ : ∃ E : Nat, h.eyes = (E : Int) := ⟨h.eyes.toNat, by have := hVW.ey; omega⟩
  have hk := Lib.hid (wok_of hv hm.has.nl hE)
  have hey : Hid (E ≤ 4) := by show _ ≤ _; have := hVW.ey; omega
  have him : Hid (h.images ≤ 6) := by show _ ≤ _; have := hVW.im; omega
  have hlk := Lib.hid (hm.has.lk)
  obtain ⟨⟨c0, c1, c2, c3, c4, c5, c6, c7⟩, _⟩ := hm.grown hZ
  have hc : Hid (∀ Y, Below w.heap.size w Y → Calls Tryz.prog 20 #[h.val] Y (LookOut Y h (ls.map (travOf h xs)))) := fun Y hY => lookAt_yes h xs ls Y (hm.has.below hY) hv
  have e1 : ∀ b, ovW h xs ls b = ovB h (ls.map (travOf h xs)) ls E (allS ls.length) (allS E) b := fun b => by unfold ovW; rw [hE]; rfl
  generalize hR : (if isImg h.eyes i then askR (ovW h xs ls 0) (1 + i.toNat) else .error 2 : Except Int Value) = R
  rw [e1] at hR
  generalize ls.map (travOf h xs) = ts at hc hk hR
  have HR := Lib.hid hR
  clear hR
  have HE := Lib.hid hE
  clear hm hv hVW e1 hE
  have t0 := (two_new w 0 0).1
  have f0 := (two_new w 0 0).2.1
  have t1 := (two_new w 0 0).2.2.1
  have f1 := (two_new w 0 0).2.2.2
  have hcc := cellB hcc hZ
  unfold Wd.val at hc
  go_enter Tryz.func54, Tryz.ntmps54
  go_wp2_with fail
  refine (hc.out _ hZ).mono ?_
  rintro e w1 ⟨L, tv, rfl, hb1, hI⟩
  have hcc := cellB hcc hb1
  have t0 := cellB t0 hb1
  have t1 := cellB t1 hb1
  have f0 := (hb1.frozen (p := ⟨w.heap.size, 0, none⟩) (by simp)).trans f0
  have f1 := (hb1.frozen (p := ⟨w.heap.size, 1, none⟩) (by simp)).trans f1
  have hlw := Lib.hid (hlk.out.below (BT hZ hb1))
  have hB1 := BT hZ hb1
  have HI := Lib.hid hI
  clear hc hb1 hI hlk hZ c0 c1 c2 c3 c4 c5 c6 c7
  have hin := Lib.hid (insistEye_any L h i w1 HI.out.box)
  cases hi : isImg h.eyes i
  · rw [hi, if_neg (by simp)] at hin
    have hRn : Hid (R = .error 2) := by show _ = _; rw [← HR.out, hi, if_neg (by simp)]
    clear HR
    go_wp2_with fail
    refine hin.out.mono ?_
    rintro e w9 ⟨rfl, hb9⟩
    have hB9 := BT hB1 hb9
    go_wp2
    rw [hRn.out]
    exact ⟨rfl, rfl, hB9⟩
  rw [hi, if_pos rfl] at hin
  have HR := Lib.hid (HR.out)
  rw [hi, if_pos rfl] at HR
  obtain ⟨j, rfl, hj⟩ := isImg_nat hi
  rw [HE.out] at hj
  go_wp2_with fail
  refine hin.out.mono ?_
  rintro e w2 ⟨rfl, hb2⟩
  have hcc := cellB hcc hb2
  skip
  have t0 := cellB t0 hb2
  have t1 := cellB t1 hb2
  have hl0 : w.heap.size < w1.heap.size := World.block_lt_of_cell? _ _ ‹w1.cell? ⟨w.heap.size, 0, none⟩ = some (.int .i64 0)›
  have f0 := (hb2.frozen (p := ⟨w.heap.size, 0, none⟩) hl0).trans f0
  have f1 := (hb2.frozen (p := ⟨w.heap.size, 1, none⟩) hl0).trans f1
  have hlw := Lib.hid (hlw.out.below hb2)
  have HI := Lib.hid (HI.out.grown hb2)
  have hB1 := BT hB1 hb2
  clear hin hi hb2 hl0
  have hA : Hid (∀ Y, Below w2.heap.size w2 Y → _) := fun Y hY => ask_any _ L E h tv ts ls (One.z) (by show 0 < 11; have := hey.out; have := him.out; omega) hk.out (One.h j) (by show 1 + j < 11; have := hey.out; have := him.out; omega) Y (HI.out.grown hY) (hlw.out.below hY)
  have hnum : Hid (askR (ovB h ts ls E (allS ls.length) (allS E) 0) (1 + (j : Int).toNat) = askR (ovB h ts ls E (allS ls.length) (allS E) (One.z).num) (One.h j).num) := by show _ = _; simp only [One.num, Int.toNat_natCast]
  rw [hnum.out] at HR
  generalize ovB h ts ls E (allS ls.length) (allS E) (One.z).num = r at hA HR
  clear hnum
  go_wp2_with fail
  refine wp_region_seq [(0, true), (1, true), (2, true), (4, true), (5, true), (3, false), (6, false), (7, false)]
    (fun w' => w'.cell? ⟨C, 0, none⟩ = some (.int .i64 j)) (by kernel_rfl) (by kernel_rfl) (fun _ _ d _ _ h => by cases d <;> exact h) hcc ?_
  repeat (first | (refine seq_read rfl (by rfl) _ (fun w' hS => by (try dsimp only at hS); go_simp; (try with_reducible rfl)) ?_; (try simp only [Act.put, List.setIfInBounds_toArray, List.set_cons_zero, List.set_cons_succ])) | (refine seq_skip rfl (by rfl) ?_; (try simp only [Act.put, List.setIfInBounds_toArray, List.set_cons_zero, List.set_cons_succ])))
  refine seq_do rfl (by rfl) (fun K hK => ?_)
  go_simp
  have hdr : Below w2.heap.size w2 w2.drew := Below.drew (Below.refl _ _)
  refine (hA.out _ hdr).mono ?_
  rintro e w4 ⟨hb4, hr⟩
  have hX := BT hdr hb4
  cases r with
  | none =>
    obtain ⟨rfl, _⟩ := hr
    have hRn : R = .error 10 := HR.out.symm
    have hB9 := BT hB1 hX
    rw [hRn]
    exact ⟨rfl, rfl, hB9⟩
  | some b =>
    obtain ⟨v, rfl, hof⟩ := hr
    have hcc := cellB hcc hX
    skip
    refine hK _ _ hcc ?_
    clear hK K
    (try simp only [Act.put, List.setIfInBounds_toArray, List.set_cons_zero, List.set_cons_succ])
    refine seq_do rfl (by rfl) (fun K hK => ?_)
    go_simp
    have hof := hof _ (Below.refl _ _)
    unfold askR at hof HR
    dsimp only at hof HR
    cases hs : b (One.h j).num with
    | none =>
      rw [hs] at hof HR
      refine hof.mono ?_
      rintro e w5 ⟨rfl, hb5⟩
      have hRn : R = .error 12 := HR.out.symm
      have hB9 := BT hB1 (BT hX hb5)
      rw [hRn]
      exact ⟨rfl, rfl, hB9⟩
    | some s =>
      rw [hs] at hof HR
      have hRn : R = .ok (.agg #[.int .i64 s.1, .int .i64 s.2]) := HR.out.symm
      rw [hRn]
      refine hof.mono ?_
      rintro e w5 ⟨rfl, hb5⟩
      have hX5 := BT hX hb5
      have t0 := cellB t0 hX5
      have t1 := cellB t1 hX5
      have hl0 : w.heap.size < w2.heap.size := World.block_lt_of_cell? _ _ ‹w2.cell? ⟨w.heap.size, 0, none⟩ = some (.int .i64 0)›
      have f0 := (hX5.frozen (p := ⟨w.heap.size, 0, none⟩) hl0).trans f0
      have f1 := (hX5.frozen (p := ⟨w.heap.size, 1, none⟩) hl0).trans f1
      refine hK _ _ (cellB hcc hb5) ?_
      clear hK K
      (try simp only [Act.put, List.setIfInBounds_toArray, List.set_cons_zero, List.set_cons_succ])
      refine seq_last rfl (by rfl) (by kernel_rfl) (fun K hK => ?_)
      go_simp
      refine hK _ _ ?_
      clear hK K
      have hB5 := BT hB1 hX5
      have u0 : ((w5.setCell ⟨w.heap.size, 0, none⟩ (.int .i64 s.1)).setCell ⟨w.heap.size, 1, none⟩ (.int .i64 s.2)).cell? ⟨w.heap.size, 0, none⟩ = some (.int .i64 s.1) := by
        rw [World.cell?_setCell_other _ _ _ _ (by intro he; injection he; omega)]; exact World.cell?_setCell_same _ _ _ t0
      have u1 : ((w5.setCell ⟨w.heap.size, 0, none⟩ (.int .i64 s.1)).setCell ⟨w.heap.size, 1, none⟩ (.int .i64 s.2)).cell? ⟨w.heap.size, 1, none⟩ = some (.int .i64 s.2) := by
        refine World.cell?_setCell_same _ _ _ (u := (.int .i64 0)) ?_
        rw [World.cell?_setCell_other _ _ _ _ (by intro he; injection he; omega)]; exact t1
      have hfin := BC (BC hB5 w.heap.size 0 (Nat.le_refl _) (.int .i64 s.1)) w.heap.size 1 (Nat.le_refl _) (.int .i64 s.2)
      go_wp2
      exact bodyPost_ret (v := .agg #[.int .i64 s.1, .int .i64 s.2]) (by simp [results, Tryz.results54, go_sem, u0, u1]) rfl ⟨rfl, hfin⟩
set_option maxRecDepth 100000 in
set_option maxHeartbeats 2000000 in
theorem placeC_no (B C : Nat) (h : Wd) (xs : List (Int × Int)) (ls : List LkV) (w : World) (hm : BoxA w B h xs ls) (hv : validW h xs ls = false) : Calls Tryz.prog 39 #[.pointer (some ⟨B, 0, none⟩), .pointer (some ⟨C, 0, none⟩)] w (Pan 1 w) := by
  have hZ := newB w (.cells #[.int .i64 0, .int .i64 0] 24)
  obtain ⟨⟨c0, c1, c2, c3, c4, c5, c6, c7⟩, _⟩ := hm.grown hZ
  have hc : Hid (∀ Y, Below w.heap.size w Y → Calls Tryz.prog 20 #[h.val] Y (Pan 1 Y)) := fun Y hY => lookAt_no h xs ls Y (hm.has.below hY) hv
  clear hm hv
  unfold Wd.val at hc
  go_enter Tryz.func39, Tryz.ntmps39
  go_wp2_with fail
  refine (hc.out _ hZ).mono ?_
  rintro e w1 ⟨rfl, hb1⟩
  have hB := BT hZ hb1
  go_wp2
  exact ⟨rfl, rfl, hB⟩
set_option maxRecDepth 100000 in
set_option maxHeartbeats 1000000 in
theorem placeC_yes (B C : Nat) (i : Int) (h : Wd) (xs : List (Int × Int)) (ls : List LkV) (w : World) (hm : BoxA w B h xs ls) (hcc : w.cell? ⟨C, 0, none⟩ = some (.int .i64 i)) (hv : validW h xs ls = true) :
    Calls Tryz.prog 39 #[.pointer (some ⟨B, 0, none⟩), .pointer (some ⟨C, 0, none⟩)] w (Out (if isImg h.images i then askR (ovW h xs ls 0) (5 + i.toNat) else .error 2) w) := by
  have hZ := newB w (.cells #[.int .i64 0, .int .i64 0] 24)
  have hVW := validW_iff hv
  obtain ⟨E, hE⟩ : ∃ E : Nat, h.eyes = (E : Int) := ⟨h.eyes.toNat, by have := hVW.ey; omega⟩
  have hk := Lib.hid (wok_of hv hm.has.nl hE)
  have hey : Hid (E ≤ 4) := by show _ ≤ _; have := hVW.ey; omega
  have him : Hid (h.images ≤ 6) := by show _ ≤ _; have := hVW.im; omega
  have hlk := Lib.hid (hm.has.lk)
  obtain ⟨⟨c0, c1, c2, c3, c4, c5, c6, c7⟩, _⟩ := hm.grown hZ
  have hc : Hid (∀ Y, Below w.heap.size w Y → Calls Tryz.prog 20 #[h.val] Y (LookOut Y h (ls.map (travOf h xs)))) := fun Y hY => lookAt_yes h xs ls Y (hm.has.below hY) hv
  have e1 : ∀ b, ovW h xs ls b = ovB h (ls.map (travOf h xs)) ls E (allS ls.length) (allS E) b := fun b => by unfold ovW; rw [hE]; rfl
  generalize hR : (if isImg h.images i then askR (ovW h xs ls 0) (5 + i.toNat) else .error 2 : Except Int Value) = R
  rw [e1] at hR
  generalize ls.map (travOf h xs) = ts at hc hk hR
  have HR := Lib.hid hR
  clear hR
  have HE := Lib.hid hE
  clear hm hv hVW e1 hE
  have t0 := (two_new w 0 0).1
  have f0 := (two_new w 0 0).2.1
  have t1 := (two_new w 0 0).2.2.1
  have f1 := (two_new w 0 0).2.2.2
  have hcc := cellB hcc hZ
  unfold Wd.val at hc
  go_enter Tryz.func39, Tryz.ntmps39
  go_wp2_with fail
  refine (hc.out _ hZ).mono ?_
  rintro e w1 ⟨L, tv, rfl, hb1, hI⟩
  have hcc := cellB hcc hb1
  have t0 := cellB t0 hb1
  have t1 := cellB t1 hb1
  have f0 := (hb1.frozen (p := ⟨w.heap.size, 0, none⟩) (by simp)).trans f0
  have f1 := (hb1.frozen (p := ⟨w.heap.size, 1, none⟩) (by simp)).trans f1
  have hlw := Lib.hid (hlk.out.below (BT hZ hb1))
  have hB1 := BT hZ hb1
  have HI := Lib.hid hI
  clear hc hb1 hI hlk hZ c0 c1 c2 c3 c4 c5 c6 c7
  have hin := Lib.hid (insistImage_any L h i w1 HI.out.box)
  cases hi : isImg h.images i
  · rw [hi, if_neg (by simp)] at hin
    have hRn : Hid (R = .error 2) := by show _ = _; rw [← HR.out, hi, if_neg (by simp)]
    clear HR
    go_wp2_with fail
    refine hin.out.mono ?_
    rintro e w9 ⟨rfl, hb9⟩
    have hB9 := BT hB1 hb9
    go_wp2
    rw [hRn.out]
    exact ⟨rfl, rfl, hB9⟩
  rw [hi, if_pos rfl] at hin
  have HR := Lib.hid (HR.out)
  rw [hi, if_pos rfl] at HR
  obtain ⟨j, rfl, hj⟩ := isImg_nat hi
  skip
  go_wp2_with fail
  refine hin.out.mono ?_
  rintro e w2 ⟨rfl, hb2⟩
  have hcc := cellB hcc hb2
  skip
  have t0 := cellB t0 hb2
  have t1 := cellB t1 hb2
  have hl0 : w.heap.size < w1.heap.size := World.block_lt_of_cell? _ _ ‹w1.cell? ⟨w.heap.size, 0, none⟩ = some (.int .i64 0)›
  have f0 := (hb2.frozen (p := ⟨w.heap.size, 0, none⟩) hl0).trans f0
  have f1 := (hb2.frozen (p := ⟨w.heap.size, 1, none⟩) hl0).trans f1
  have hlw := Lib.hid (hlw.out.below hb2)
  have HI := Lib.hid (HI.out.grown hb2)
  have hB1 := BT hB1 hb2
  clear hin hi hb2 hl0
  have hA : Hid (∀ Y, Below w2.heap.size w2 Y → _) := fun Y hY => ask_any _ L E h tv ts ls (One.z) (by show 0 < 11; have := hey.out; have := him.out; omega) hk.out (One.p j) (by show 5 + j < 11; have := hey.out; have := him.out; omega) Y (HI.out.grown hY) (hlw.out.below hY)
  have hnum : Hid (askR (ovB h ts ls E (allS ls.length) (allS E) 0) (5 + (j : Int).toNat) = askR (ovB h ts ls E (allS ls.length) (allS E) (One.z).num) (One.p j).num) := by show _ = _; simp only [One.num, Int.toNat_natCast]
  rw [hnum.out] at HR
  generalize ovB h ts ls E (allS ls.length) (allS E) (One.z).num = r at hA HR
  clear hnum
  go_wp2_with fail
  refine wp_region_seq [(0, true), (1, true), (2, true), (4, true), (5, true), (3, false), (6, false), (7, false)]
    (fun w' => w'.cell? ⟨C, 0, none⟩ = some (.int .i64 j)) (by kernel_rfl) (by kernel_rfl) (fun _ _ d _ _ h => by cases d <;> exact h) hcc ?_
  repeat (first | (refine seq_read rfl (by rfl) _ (fun w' hS => by (try dsimp only at hS); go_simp; (try with_reducible rfl)) ?_; (try simp only [Act.put, List.setIfInBounds_toArray, List.set_cons_zero, List.set_cons_succ])) | (refine seq_skip rfl (by rfl) ?_; (try simp only [Act.put, List.setIfInBounds_toArray, List.set_cons_zero, List.set_cons_succ])))
  refine seq_do rfl (by rfl) (fun K hK => ?_)
  go_simp
  have hdr : Below w2.heap.size w2 w2.drew := Below.drew (Below.refl _ _)
  refine (hA.out _ hdr).mono ?_
  rintro e w4 ⟨hb4, hr⟩
  have hX := BT hdr hb4
  cases r with
  | none =>
    obtain ⟨rfl, _⟩ := hr
    have hRn : R = .error 10 := HR.out.symm
    have hB9 := BT hB1 hX
    rw [hRn]
    exact ⟨rfl, rfl, hB9⟩
  | some b =>
    obtain ⟨v, rfl, hof⟩ := hr
    have hcc := cellB hcc hX
    skip
    refine hK _ _ hcc ?_
    clear hK K
    (try simp only [Act.put, List.setIfInBounds_toArray, List.set_cons_zero, List.set_cons_succ])
    refine seq_do rfl (by rfl) (fun K hK => ?_)
    go_simp
    have hof := hof _ (Below.refl _ _)
    unfold askR at hof HR
    dsimp only at hof HR
    cases hs : b (One.p j).num with
    | none =>
      rw [hs] at hof HR
      refine hof.mono ?_
      rintro e w5 ⟨rfl, hb5⟩
      have hRn : R = .error 12 := HR.out.symm
      have hB9 := BT hB1 (BT hX hb5)
      rw [hRn]
      exact ⟨rfl, rfl, hB9⟩
    | some s =>
      rw [hs] at hof HR
      have hRn : R = .ok (.agg #[.int .i64 s.1, .int .i64 s.2]) := HR.out.symm
      rw [hRn]
      refine hof.mono ?_
      rintro e w5 ⟨rfl, hb5⟩
      have hX5 := BT hX hb5
      have t0 := cellB t0 hX5
      have t1 := cellB t1 hX5
      have hl0 : w.heap.size < w2.heap.size := World.block_lt_of_cell? _ _ ‹w2.cell? ⟨w.heap.size, 0, none⟩ = some (.int .i64 0)›
      have f0 := (hX5.frozen (p := ⟨w.heap.size, 0, none⟩) hl0).trans f0
      have f1 := (hX5.frozen (p := ⟨w.heap.size, 1, none⟩) hl0).trans f1
      refine hK _ _ (cellB hcc hb5) ?_
      clear hK K
      (try simp only [Act.put, List.setIfInBounds_toArray, List.set_cons_zero, List.set_cons_succ])
      refine seq_last rfl (by rfl) (by kernel_rfl) (fun K hK => ?_)
      go_simp
      refine hK _ _ ?_
      clear hK K
      have hB5 := BT hB1 hX5
      have u0 : ((w5.setCell ⟨w.heap.size, 0, none⟩ (.int .i64 s.1)).setCell ⟨w.heap.size, 1, none⟩ (.int .i64 s.2)).cell? ⟨w.heap.size, 0, none⟩ = some (.int .i64 s.1) := by
        rw [World.cell?_setCell_other _ _ _ _ (by intro he; injection he; omega)]; exact World.cell?_setCell_same _ _ _ t0
      have u1 : ((w5.setCell ⟨w.heap.size, 0, none⟩ (.int .i64 s.1)).setCell ⟨w.heap.size, 1, none⟩ (.int .i64 s.2)).cell? ⟨w.heap.size, 1, none⟩ = some (.int .i64 s.2) := by
        refine World.cell?_setCell_same _ _ _ (u := (.int .i64 0)) ?_
        rw [World.cell?_setCell_other _ _ _ _ (by intro he; injection he; omega)]; exact t1
      have hfin := BC (BC hB5 w.heap.size 0 (Nat.le_refl _) (.int .i64 s.1)) w.heap.size 1 (Nat.le_refl _) (.int .i64 s.2)
      go_wp2
      exact bodyPost_ret (v := .agg #[.int .i64 s.1, .int .i64 s.2]) (by simp [results, Tryz.results39, go_sem, u0, u1]) rfl ⟨rfl, hfin⟩
end Ey
end Go.Proofs.YtcfjakifeihbpaaGreat
