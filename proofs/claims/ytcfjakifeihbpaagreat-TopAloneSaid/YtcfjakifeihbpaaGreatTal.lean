/- Through the layers: the walk of TopAlone. -/
import Derived.Test.YtcfjakifeihbpaaGreatTam
import Derived.Test.YtcfjakifeihbpaaGreatTaw
import Derived.Test.YtcfjakifeihbpaaGreatErl
namespace Go.Proofs.YtcfjakifeihbpaaGreat
namespace Ta
open Go.RowKit

def settV (s : Sett) : List Value := [.int .i64 s.1, .int .i64 s.2.1, .bool s.2.2]
theorem infoSe : (Tryz.prog.info? 38).map (fun i => (i.zero, i.size, i.bytes)) = some (some (.agg #[.int .i64 0, .int .i64 0, .bool false]), 3, 24) := by kernel_rfl
theorem flat_sett (ss : List Sett) : ∀ k, k < ss.length → (ss.flatMap settV)[k * 3]? = some (.int .i64 (ss.getD k (0, 0, false)).1) ∧ (ss.flatMap settV)[k * 3 + 1]? = some (.int .i64 (ss.getD k (0, 0, false)).2.1) ∧ (ss.flatMap settV)[k * 3 + 2]? = some (.bool (ss.getD k (0, 0, false)).2.2) := by
  induction ss with
  | nil => intro k hk; simp at hk
  | cons s ss ih =>
    intro k hk
    cases k with
    | zero => simp [settV]
    | succ k =>
      have h := ih k (by simpa using hk)
      have e : ∀ i, (List.flatMap settV (s :: ss))[(k + 1) * 3 + i]? = (List.flatMap settV ss)[k * 3 + i]? := fun i => by
        rw [List.flatMap_cons, List.getElem?_append_right (by simp [settV]; omega)]
        congr 1; simp [settV]; omega
      have e0 := e 0
      simp only [Nat.add_zero] at e0
      rw [e0, e 1, e 2]
      simpa using h
theorem setts_row {W : World} {base g n cap : Nat} {ss : List Sett} (h : W.ownsRow base 38 3 (.slice (some ⟨g, 0, none⟩) n cap) n (ss.flatMap settV)) (hn : ss.length = n) (hr : ∀ s ∈ ss, s.2.1 ≤ 9223372036854775807) : Setts W (some ⟨g, 0, none⟩) ss := by
  by_cases h0 : ss = []
  · exact .inl h0
  · refine .inr ⟨g, 0, rfl, (h.lt g rfl).2, fun k hk => ?_⟩
    obtain ⟨h1, h2, h3⟩ := flat_sett ss k hk
    refine ⟨?_, ?_, ?_, hr _ (by simp [List.getD, hk])⟩
    · rw [Nat.zero_add, h.cellAt _ (by omega), h1]
    · rw [Nat.zero_add, h.cellAt _ (by omega), h2]
    · rw [Nat.zero_add, h.cellAt _ (by omega), h3]
/-- A measure whose settings are put together. -/
structure MB (X : World) (Q : Nat) (h : Ey.Wd) (sv : Value) (L : List Sett) : Prop where
  f0 : X.cell? ⟨Q, 0, none⟩ = some (.slice h.a h.n h.cap)
  f1 : X.cell? ⟨Q, 1, none⟩ = some (.int .i64 h.eLo)
  f2 : X.cell? ⟨Q, 2, none⟩ = some (.int .i64 h.eHi)
  f3 : X.cell? ⟨Q, 3, none⟩ = some (.int .i64 h.images)
  f4 : X.cell? ⟨Q, 4, none⟩ = some (.int .i64 0)
  f5 : X.cell? ⟨Q, 5, none⟩ = some (.int .i64 131072)
  f6 : X.cell? ⟨Q, 6, none⟩ = some sv
  z6 : X.frozen? ⟨Q, 6, none⟩ = false
  row : X.ownsRow (Q + 1) 38 3 sv L.length (L.flatMap settV)
theorem MB.lt {X : World} {Q : Nat} {h : Ey.Wd} {sv : Value} {L : List Sett} (k : MB X Q h sv L) : Q < X.heap.size := World.block_lt_of_cell? _ _ k.f0
theorem MB.grown {X X' : World} {Q : Nat} {h : Ey.Wd} {sv : Value} {L : List Sett} (k : MB X Q h sv L) (hb : Below X.heap.size X X') : MB X' Q h sv L := by
  have hl := k.lt
  exact ⟨cellB k.f0 hb, cellB k.f1 hb, cellB k.f2 hb, cellB k.f3 hb, cellB k.f4 hb, cellB k.f5 hb, cellB k.f6 hb, (hb.frozen (p := ⟨Q, 6, none⟩) hl).trans k.z6,
    k.row.kept (row := none) ⟨hb.os, hb.tape, hb.output, hb.size, fun i hi _ => hb.block i hi⟩ (by cases h : sv.ownBlock <;> simp)⟩
theorem MB.put {X X' : World} {Q : Nat} {h : Ey.Wd} {sv v' : Value} {L : List Sett} {s : Sett} (k : MB X Q h sv L) (hg : X.grownBy X' sv.ownBlock) (hown : X'.ownsRow (Q + 1) 38 3 v' (L.length + 1) (L.flatMap settV ++ settV s)) :
    MB (X'.setCell ⟨Q, 6, none⟩ v') Q h v' (L ++ [s]) ∧ Below Q X (X'.setCell ⟨Q, 6, none⟩ v') := by
  have hl := k.lt
  have hb : ∀ b, b < Q + 1 → some b ≠ sv.ownBlock := fun b hb e => by have := (k.row.lt b e.symm).1; omega
  have c : ∀ o v, X.cell? ⟨Q, o, none⟩ = some v → o ≠ 6 → (X'.setCell ⟨Q, 6, none⟩ v').cell? ⟨Q, o, none⟩ = some v := fun o v hv ho => by
    rw [World.cell?_setCell_other _ _ _ _ (by intro he; injection he; omega)]; exact hg.cell hv (hb _ (by show Q < _; omega))
  refine ⟨⟨c _ _ k.f0 (by omega), c _ _ k.f1 (by omega), c _ _ k.f2 (by omega), c _ _ k.f3 (by omega), c _ _ k.f4 (by omega), c _ _ k.f5 (by omega), ?_, ?_, ?_⟩, ?_⟩
  · exact World.cell?_setCell_same _ _ _ (hg.cell k.f6 (hb _ (by show Q < _; omega)))
  · rw [World.frozen?_setCell]; exact (World.frozen?_of_block (a := ⟨Q, 6, none⟩) (hg.block Q hl (hb _ (by omega)))).trans k.z6
  · rw [List.length_append, List.flatMap_append]
    have := ownsRow_setCell_below hown (a := ⟨Q, 6, none⟩) (by show Q < Q + 1; omega) v'
    simpa using this
  · exact ((Below.refl Q X).grown hg (by omega) (fun j hj => by have := (k.row.lt j hj).1; omega)).setCell (p := ⟨Q, 6, none⟩) (Nat.le_refl _) _
theorem hasW0 {X : World} {h : Ey.Wd} {xs : List (Int × Int)} {ls : List Ey.LkV} (k : Ey.HasW X h xs ls) : Ey.HasW X (h0 h) xs ls := ⟨k.sp, k.lk, k.nx, k.nl, k.lx, k.ll⟩
theorem take_snoc (ls : List Ey.LkV) {k : Nat} (hk : k < ls.length) : ssOf (ls.take (k + 1)) = ssOf (ls.take k) ++ [((ls.getD k (0, 0, 0)).2.1, (ls.getD k (0, 0, 0)).2.2, false)] := by
  simp [ssOf, List.getD, hk]
  rw [List.take_succ_eq_append_getElem (by simpa using hk)]
  simp [settOf]

set_option maxRecDepth 100000 in
set_option maxHeartbeats 16000000 in
theorem alone_walk (h : Ey.Wd) (xs : List (Int × Int)) (ls : List Ey.LkV) (w : World) (hm : Ey.HasW w h xs ls) :
    Calls Tryz.prog 3 #[h.val] w (Ret (.bool true) w) := by
  have hX := newB w (.cells #[.slice h.a h.n h.cap, .int .i64 h.eLo, .int .i64 h.eHi, .int .i64 h.images, .int .i64 h.eyes, .int .i64 h.hLo, .int .i64 h.hHi, .slice h.la h.ln h.lcap] 29)
  obtain ⟨c0, c1, c2, c3, c4, c5, c6, c7⟩ := Ey.boxW_new w h 29
  have HM := Lib.hid (hm.below hX)
  have HNL := Lib.hid hm.nl
  have HNX := Lib.hid hm.nx
  have hl0 : (h.ln : Int) ≤ 9223372036854775807 := by rw [← hm.nl]; have := hm.ll; omega
  have hl1 : (h.n : Int) ≤ 9223372036854775807 := by rw [← hm.nx]; have := hm.lx; omega
  have hwat : Hid (¬ 40 < h.ln → ¬ 100 < h.n → ∀ Y, Ey.HasW Y h xs ls → Calls Tryz.prog 4 #[h.val] Y (Ret (.bool (Ey.validW h xs ls)) Y)) := fun a b Y hY => Ey.watchR_any h xs ls Y hY (by rw [hm.nx]; omega) (by rw [hm.nl]; omega)
  clear hm
  unfold Ey.Wd.val at hwat ⊢
  by_cases h1 : 40 < h.ln
  · have h1' : (h.ln : Int) > 40 := by omega
    go_enter Tryz.func3, Tryz.ntmps3
    go_wp2_with fail
    refine (awake03_any _).mono ?_
    rintro e w2 ⟨rfl, hb2⟩
    have hB2 := hX.trans (hb2.mono hX.size)
    go_wp2
    go_ret
    exact ⟨rfl, hB2⟩
  have h1' : ¬ (h.ln : Int) > 40 := by omega
  by_cases h2 : 100 < h.n
  · have h2' : (h.n : Int) > 100 := by omega
    go_enter Tryz.func3, Tryz.ntmps3
    go_wp2_with fail
    refine (awake03_any _).mono ?_
    rintro e w2 ⟨rfl, hb2⟩
    have hB2 := hX.trans (hb2.mono hX.size)
    go_wp2
    go_ret
    exact ⟨rfl, hB2⟩
  have h2' : ¬ (h.n : Int) > 100 := by omega
  have hwat := Lib.hid (hwat.out h1 h2)
  go_enter Tryz.func3, Tryz.ntmps3
  go_wp2_with fail
  generalize hBw : w.heap.size = B at c0 c1 c2 c3 c4 c5 c6 c7 ⊢
  have HBw := Lib.hid hBw
  clear hBw
  have HX := Lib.hid hX
  clear hX
  generalize w.alloc (.cells #[.slice h.a h.n h.cap, .int .i64 h.eLo, .int .i64 h.eHi, .int .i64 h.images, .int .i64 h.eyes, .int .i64 h.hLo, .int .i64 h.hHi, .slice h.la h.ln h.lcap] 29) = W at *
  refine (hwat.out W HM.out).mono ?_
  rintro e w1 ⟨rfl, hb1⟩
  have HB1 := Lib.hid (HX.out.trans (hb1.mono HX.out.size))
  cases hv : Ey.validW h xs ls
  · have hB := HB1.out
    go_wp2_with fail
    refine (awake03_any _).mono ?_
    rintro e w2 ⟨rfl, hb2⟩
    have hB2 := hB.trans (hb2.mono hB.size)
    go_wp2
    go_ret
    exact ⟨rfl, hB2⟩
  have c0 := cellB c0 hb1
  have c1 := cellB c1 hb1
  have c2 := cellB c2 hb1
  have c3 := cellB c3 hb1
  have c4 := cellB c4 hb1
  have c5 := cellB c5 hb1
  have c6 := cellB c6 hb1
  have c7 := cellB c7 hb1
  have HM1 := Lib.hid (HM.out.below hb1)
  have HV := Lib.hid hv
  have hB1w : B < w1.heap.size := World.block_lt_of_cell? _ _ c0
  clear hb1 HM hwat hv
  -- the copy without habits
  obtain ⟨p0, p1, p2, p3, p4, p5, p6, p7⟩ := Ey.boxW_new w1 (h0 h) 29
  have hn1 := newB w1 (.cells #[.slice h.a h.n h.cap, .int .i64 h.eLo, .int .i64 h.eHi, .int .i64 h.images, .int .i64 h.eyes, .int .i64 0, .int .i64 0, .slice h.la h.ln h.lcap] 29)
  obtain ⟨P, hP⟩ : ∃ P : Nat, w1.heap.size = P := ⟨_, rfl⟩
  go_upto_region 5 with fail
  have hsz2 : P + 1 = (w1.alloc (.cells #[.slice h.a h.n h.cap, .int .i64 h.eLo, .int .i64 h.eHi, .int .i64 h.images, .int .i64 h.eyes, .int .i64 0, .int .i64 0, .slice h.la h.ln h.lcap] 29)).heap.size := by simp [hP]
  have c0 := cellB c0 hn1
  have c1 := cellB c1 hn1
  have c2 := cellB c2 hn1
  have c3 := cellB c3 hn1
  have c4 := cellB c4 hn1
  have c5 := cellB c5 hn1
  have c6 := cellB c6 hn1
  have c7 := cellB c7 hn1
  have HX2 := Lib.hid hn1
  have HX02 := Lib.hid (HB1.out.trans (hn1.mono HB1.out.size))
  change (w1.alloc (.cells #[.slice h.a h.n h.cap, .int .i64 h.eLo, .int .i64 h.eHi, .int .i64 h.images, .int .i64 h.eyes, .int .i64 0, .int .i64 0, .slice h.la h.ln h.lcap] 29)).cell? _ = some (.slice h.a h.n h.cap) at p0
  change (w1.alloc (.cells #[.slice h.a h.n h.cap, .int .i64 h.eLo, .int .i64 h.eHi, .int .i64 h.images, .int .i64 h.eyes, .int .i64 0, .int .i64 0, .slice h.la h.ln h.lcap] 29)).cell? _ = some (.int .i64 h.eLo) at p1
  change (w1.alloc (.cells #[.slice h.a h.n h.cap, .int .i64 h.eLo, .int .i64 h.eHi, .int .i64 h.images, .int .i64 h.eyes, .int .i64 0, .int .i64 0, .slice h.la h.ln h.lcap] 29)).cell? _ = some (.int .i64 h.eHi) at p2
  change (w1.alloc (.cells #[.slice h.a h.n h.cap, .int .i64 h.eLo, .int .i64 h.eHi, .int .i64 h.images, .int .i64 h.eyes, .int .i64 0, .int .i64 0, .slice h.la h.ln h.lcap] 29)).cell? _ = some (.int .i64 h.images) at p3
  change (w1.alloc (.cells #[.slice h.a h.n h.cap, .int .i64 h.eLo, .int .i64 h.eHi, .int .i64 h.images, .int .i64 h.eyes, .int .i64 0, .int .i64 0, .slice h.la h.ln h.lcap] 29)).cell? _ = some (.int .i64 h.eyes) at p4
  change (w1.alloc (.cells #[.slice h.a h.n h.cap, .int .i64 h.eLo, .int .i64 h.eHi, .int .i64 h.images, .int .i64 h.eyes, .int .i64 0, .int .i64 0, .slice h.la h.ln h.lcap] 29)).cell? _ = some (.int .i64 0) at p5
  change (w1.alloc (.cells #[.slice h.a h.n h.cap, .int .i64 h.eLo, .int .i64 h.eHi, .int .i64 h.images, .int .i64 h.eyes, .int .i64 0, .int .i64 0, .slice h.la h.ln h.lcap] 29)).cell? _ = some (.int .i64 0) at p6
  change (w1.alloc (.cells #[.slice h.a h.n h.cap, .int .i64 h.eLo, .int .i64 h.eHi, .int .i64 h.images, .int .i64 h.eyes, .int .i64 0, .int .i64 0, .slice h.la h.ln h.lcap] 29)).cell? _ = some (.slice h.la h.ln h.lcap) at p7
  clear hn1
  generalize w1.alloc (.cells #[.slice h.a h.n h.cap, .int .i64 h.eLo, .int .i64 h.eHi, .int .i64 h.images, .int .i64 h.eyes, .int .i64 0, .int .i64 0, .slice h.la h.ln h.lcap] 29) = W2 at *
  rw [hP] at p0 p1 p2 p3 p4 p5 p6 p7 hB1w
  have hn3 := newB W2 (.cells #[.slice h.a h.n h.cap, .int .i64 h.eLo, .int .i64 h.eHi, .int .i64 h.images, .int .i64 0, .int .i64 131072, .slice none 0 0] 34)
  have hMB : MB (W2.alloc (.cells #[.slice h.a h.n h.cap, .int .i64 h.eLo, .int .i64 h.eHi, .int .i64 h.images, .int .i64 0, .int .i64 131072, .slice none 0 0] 34)) W2.heap.size h (.slice none 0 0) (ssOf (ls.take 0)) := ⟨by simp [go_sem], by simp [go_sem], by simp [go_sem], by simp [go_sem], by simp [go_sem], by simp [go_sem], by simp [go_sem], by simp, World.ownsRow_nil _ _ _ _⟩
  have c0 := cellB c0 hn3
  have c1 := cellB c1 hn3
  have c2 := cellB c2 hn3
  have c3 := cellB c3 hn3
  have c4 := cellB c4 hn3
  have c5 := cellB c5 hn3
  have c6 := cellB c6 hn3
  have c7 := cellB c7 hn3
  have p0 := cellB p0 hn3
  have p1 := cellB p1 hn3
  have p2 := cellB p2 hn3
  have p3 := cellB p3 hn3
  have p4 := cellB p4 hn3
  have p5 := cellB p5 hn3
  have p6 := cellB p6 hn3
  have p7 := cellB p7 hn3
  have HX3 := Lib.hid (HX2.out.trans (hn3.mono HX2.out.size))
  have HX03 := Lib.hid (HX02.out.trans (hn3.mono HX02.out.size))
  have hQ : W2.heap.size < (W2.alloc (.cells #[.slice h.a h.n h.cap, .int .i64 h.eLo, .int .i64 h.eHi, .int .i64 h.images, .int .i64 0, .int .i64 131072, .slice none 0 0] 34)).heap.size := by simp
  have hPQ : P < W2.heap.size := by omega
  clear HX2 HX02 hn3 hsz2
  go_wp2_with fail
  generalize W2.alloc (.cells #[.slice h.a h.n h.cap, .int .i64 h.eLo, .int .i64 h.eHi, .int .i64 h.images, .int .i64 0, .int .i64 131072, .slice none 0 0] 34) = W3 at *
  generalize W2.heap.size = Q at *
  have HMB := Lib.hid hMB
  clear hMB
  go_loopw [51] (fun i wr => ∃ k : Nat, k ≤ h.ln ∧ i = .int .i64 k ∧ (∃ sv, MB wr Q h sv (ssOf (ls.take k))) ∧ Below Q W3 wr) (fun i _ => h.ln - (intOf i).toNat)
  case atStart => exact ⟨0, by omega, rfl, ⟨_, HMB.out⟩, Below.refl _ _⟩
  case round =>
    clear HMB
    obtain ⟨k, hk, rfl, ⟨sv, hMB⟩, hB⟩ := hrel
    have hk0 : (0 : Int) ≤ (k : Int) := by omega
    have HBr := Lib.hid hB
    have HMr := Lib.hid (HM1.out.below (HX3.out.trans (hB.mono (by omega))))
    by_cases hlt : k < h.ln
    · have hlti : (k : Int) < (h.ln : Int) := by omega
      have hlts : k < ls.length := by rw [HNL.out]; exact hlt
      rcases HMr.out.lk with hnil | ⟨lb, lo, hla, hlb, hlc⟩
      · exfalso; rw [hnil] at hlts; simp at hlts
      obtain ⟨l0, l1, l2, _⟩ := hlc k hlts
      clear hlc hB
      rw [hla] at c7 ⊢
      clear hla
      have hst := Lib.hid (take_snoc ls hlts)
      generalize ls.getD k (0, 0, 0) = lk at *
      obtain ⟨ey, im, rd⟩ := lk
      dsimp only at hst l0 l1 l2
      have hA1 := newB wr (.cells #[.int .i64 ey, .int .i64 im, .int .i64 rd] 36)
      have hA2 := hA1.trans ((newB (wr.alloc (.cells #[.int .i64 ey, .int .i64 im, .int .i64 rd] 36)) (.cells #[.int .i64 im, .int .i64 rd, .bool false] 38)).mono (by simp))
      have hM2 := hMB.grown hA2
      have HM2 := Lib.hid hM2
      have HA2 := Lib.hid hA2
      have f6 := hMB.f6
      have z6 := hMB.z6
      have hlq := hMB.lt
      have hlen : (ssOf (ls.take k)).length = k := by rw [ssOf_len, List.length_take]; omega
      clear hA1 hA2 hM2 hMB
      obtain ⟨i0, hi9, hz0, hz1, hz2⟩ := info_parts infoSe
      go_wp2_with (at_builtin; refine wpList_append_own _ rfl _ _ 32 rfl (Q + 1) 38 i0 (.agg #[.int .i64 0, .int .i64 0, .bool false]) 3 24 Tryz.underlying32 hi9 hz0 hz1 hz2 rfl (by decide) _ _ _ rfl HM2.out.row ⟨wr.heap.size + 1, 0, none⟩ 1 1 (settV (im, rd, false)) rfl rfl ?c1 ?c2 ?c3 ?c4 ?c5 ?_)
      case c1 =>
        intro j u hj
        have hj3 : j < 3 := by have := (List.getElem?_eq_some_iff.1 hj).1; simpa [settV] using this
        have : j = 0 ∨ j = 1 ∨ j = 2 := by omega
        rcases this with rfl | rfl | rfl <;> (simp [settV] at hj; subst hj; simp [go_sem])
      case c2 => simp [settV, Value.oneCell']
      case c3 => unfold maxLen; omega
      case c4 => omega
      case c5 => first | omega | (simp; omega)
      intro v' X' hown hgr _
      obtain ⟨g', cap', rfl⟩ : ∃ g' cap', v' = .slice (some ⟨g', 0, none⟩) (k + 1) cap' := by
        rcases hown.2 with ⟨_, e⟩ | ⟨g', cap', cur, rfl, _⟩
        · omega
        · exact ⟨_, _, rfl⟩
      obtain ⟨hM3, hB3⟩ := HM2.out.put hgr (by rw [hlen]; exact hown)
      have hcc : X'.cell? ⟨Q, 6, none⟩ = some sv := hgr.cell HM2.out.f6 (fun e => by have := (HM2.out.row.lt Q e.symm).1; omega)
      have hzz : X'.frozen? ⟨Q, 6, none⟩ = false := (World.frozen?_of_block (a := ⟨Q, 6, none⟩) (hgr.block Q HM2.out.lt (fun e => by have := (HM2.out.row.lt Q e.symm).1; omega))).trans HM2.out.z6
      rw [← hst.out] at hM3
      have hB4 := (HBr.out.trans (HA2.out.mono (by omega))).trans hB3
      go_wp2_with fail
      go_roundw
      case rel => exact ⟨k + 1, by omega, by go_num, ⟨_, hM3⟩, hB4⟩
      case measure => simp [intOf]; omega
    · obtain rfl : h.ln = k := by omega
      have htk : ls.take h.ln = ls := List.take_of_length_le (by rw [HNL.out]; exact Nat.le_refl _)
      rw [htk] at hMB
      have hsz : ∃ sa cap, sv = .slice sa h.ln cap ∧ Setts wr sa (ssOf ls) := by
        have hr := hMB.row
        have hsl : (ssOf ls).length = h.ln := by rw [ssOf_len, HNL.out]
        rw [hsl] at hr
        by_cases h0 : h.ln = 0
        · have hnil : ssOf ls = [] := List.eq_nil_of_length_eq_zero (by rw [hsl, h0])
          rcases hr.2 with ⟨e1, e2⟩ | ⟨g, cap, cur, e1, _⟩
          · exact ⟨none, 0, by rw [e1, h0], .inl hnil⟩
          · exact ⟨_, cap, e1, .inl hnil⟩
        · rcases hr.2 with ⟨e1, e2⟩ | ⟨g, cap, cur, e1, _⟩
          · exact absurd e2 h0
          · refine ⟨_, cap, e1, setts_row (by rw [e1] at hr; exact hr) hsl (fun s hs => ?_)⟩
            obtain ⟨l, hl, rfl⟩ := List.mem_map.1 hs
            obtain ⟨j, hj, rfl⟩ := List.getElem_of_mem hl
            rcases HMr.out.lk with hn | ⟨b, o, _, _, hc⟩
            · rw [hn] at hj; simp at hj
            · have := (hc j hj).2.2.2
              simp only [List.getD, List.getElem?_eq_getElem hj, Option.getD_some] at this
              exact this
      obtain ⟨sa, scap, rfl, hset⟩ := hsz
      have HS0 := Lib.hid hset
      obtain ⟨m0', m1', m2', m3', m4', m5', m6', _, _⟩ := hMB
      have c0 := (hB.cell (p := ⟨B, 0, none⟩) (by show B < _; omega)).trans c0
      have c1 := (hB.cell (p := ⟨B, 1, none⟩) (by show B < _; omega)).trans c1
      have c2 := (hB.cell (p := ⟨B, 2, none⟩) (by show B < _; omega)).trans c2
      have c3 := (hB.cell (p := ⟨B, 3, none⟩) (by show B < _; omega)).trans c3
      have c4 := (hB.cell (p := ⟨B, 4, none⟩) (by show B < _; omega)).trans c4
      have c5 := (hB.cell (p := ⟨B, 5, none⟩) (by show B < _; omega)).trans c5
      have c6 := (hB.cell (p := ⟨B, 6, none⟩) (by show B < _; omega)).trans c6
      have c7 := (hB.cell (p := ⟨B, 7, none⟩) (by show B < _; omega)).trans c7
      have p0 := (hB.cell (p := ⟨P, 0, none⟩) (by show P < _; omega)).trans p0
      have p1 := (hB.cell (p := ⟨P, 1, none⟩) (by show P < _; omega)).trans p1
      have p2 := (hB.cell (p := ⟨P, 2, none⟩) (by show P < _; omega)).trans p2
      have p3 := (hB.cell (p := ⟨P, 3, none⟩) (by show P < _; omega)).trans p3
      have p4 := (hB.cell (p := ⟨P, 4, none⟩) (by show P < _; omega)).trans p4
      have p5 := (hB.cell (p := ⟨P, 5, none⟩) (by show P < _; omega)).trans p5
      have p6 := (hB.cell (p := ⟨P, 6, none⟩) (by show P < _; omega)).trans p6
      have p7 := (hB.cell (p := ⟨P, 7, none⟩) (by show P < _; omega)).trans p7
      clear hB hset htk
      have hvv := HV.out
      have hnl := HNL.out
      have hC := clash_same hvv hnl sa h.ln scap
      have hD := drop_same hvv hnl sa h.ln scap
      obtain ⟨vC, hvC⟩ : ∃ v : Int, Ey.clashA (h0 h) xs ls = .ok v := ⟨Ey.clashR (h0 h) xs ls, by unfold Ey.clashA; rw [if_pos (valid_h0 hvv)]⟩
      obtain ⟨vD, hvD⟩ : ∃ v : Int, Ey.dropA (h0 h) xs ls = .ok v := ⟨Ey.dropR (h0 h) xs ls, by unfold Ey.dropA; rw [if_pos (valid_h0 hvv)]⟩
      rw [hvC] at hC
      rw [hvD] at hD
      have HW1 : Hid (∀ Y, Below wr.heap.size wr Y → Ey.HasW Y h xs ls) := fun Y hY => HMr.out.below hY
      have HW2 : Hid (∀ Y, Below wr.heap.size wr Y → HasM Y (m0 h sa h.ln scap) xs (ssOf ls)) := fun Y hY => ⟨(HMr.out.below hY).sp, HS0.out.below (Nat.le_refl _) hY, HNX.out, by rw [ssOf_len, hnl]; rfl, by rw [HNX.out]; omega, by rw [ssOf_len, hnl]; omega⟩
      have k1 : Hid (∀ Y, Below wr.heap.size wr Y → Calls Tryz.prog 6 #[(h0 h).val] Y (Ret (.tuple #[.int .i64 vC, .int .i64 0]) Y)) := fun Y hY => by
        have := Ey.clash_any (h0 h) xs ls Y (hasW0 (HW1.out Y hY)); rw [hvC] at this; exact this
      have k2 : Hid (∀ Y, Below wr.heap.size wr Y → Calls Tryz.prog 7 #[(m0 h sa h.ln scap).val] Y (Ret (.tuple #[.int .i64 vC, .int .i64 0]) Y)) := fun Y hY => by
        have := clash_any (m0 h sa h.ln scap) xs (ssOf ls) Y (HW2.out Y hY); rw [← hC] at this; exact this
      have k3 : Hid (∀ Y, Below wr.heap.size wr Y → Calls Tryz.prog 8 #[(h0 h).val] Y (Ret (.tuple #[.int .i64 vD, .int .i64 0]) Y)) := fun Y hY => by
        have := Ey.drop_any (h0 h) xs ls Y (hasW0 (HW1.out Y hY)); rw [hvD] at this; exact this
      have k4 : Hid (∀ Y, Below wr.heap.size wr Y → Calls Tryz.prog 9 #[(m0 h sa h.ln scap).val] Y (Ret (.tuple #[.int .i64 vD, .int .i64 0]) Y)) := fun Y hY => by
        have := drop_any (m0 h sa h.ln scap) xs (ssOf ls) Y (HW2.out Y hY); rw [← hD] at this; exact this
      have k5 : Hid (∀ (i : Nat) Y, Below wr.heap.size wr Y → Calls Tryz.prog 10 #[(h0 h).val, .int .i64 i] Y (Ret (reply (Ey.placeR (h0 h) xs ls i)) Y)) := fun i Y hY => Ey.place_any i (h0 h) xs ls Y (hasW0 (HW1.out Y hY))
      have k6 : Hid (∀ (i : Nat) Y, Below wr.heap.size wr Y → Calls Tryz.prog 11 #[(m0 h sa h.ln scap).val, .int .i64 i] Y (Ret (reply (placeA (m0 h sa h.ln scap) xs (ssOf ls) i)) Y)) := fun i Y hY => place_any i (m0 h sa h.ln scap) xs (ssOf ls) Y (HW2.out Y hY)
      have k7 : Hid (∀ (i : Nat) Y, Below wr.heap.size wr Y → Calls Tryz.prog 10 #[h.val, .int .i64 i] Y (Ret (reply (Ey.placeR h xs ls i)) Y)) := fun i Y hY => Ey.place_any i h xs ls Y (HW1.out Y hY)
      have HP : Hid (∀ i : Nat, (i : Int) < h.images → ∃ lo hi' c a b d : Int, reply (Ey.placeR (h0 h) xs ls i) = .tuple #[.agg #[.int .i64 lo, .int .i64 hi'], .int .i64 c] ∧ reply (placeA (m0 h sa h.ln scap) xs (ssOf ls) i) = .tuple #[.agg #[.int .i64 lo, .int .i64 hi'], .int .i64 c] ∧
        reply (Ey.placeR h xs ls i) = .tuple #[.agg #[.int .i64 a, .int .i64 b], .int .i64 d] ∧ (c = 0 → d = 0 ∧ a ≤ lo ∧ hi' ≤ b)) := fun i hi => place_same hvv hnl sa h.ln scap hi
      have V := Ey.validW_iff hvv
      obtain ⟨I, hI⟩ : ∃ I : Nat, h.images = (I : Int) := ⟨h.images.toNat, by have := V.im; omega⟩
      have HI := Lib.hid hI
      have hI6 : I ≤ 6 := by have := V.im.2; omega
      have HBW : Hid (Below w.heap.size w wr) := HX03.out.trans (HBr.out.mono (by have := HBw.out; omega))
      clear hC hD hvC hvD HW1 HW2 HMr HS0 HX3 HM1 HV HNX HNL HB1 HX03 HBr hvv hnl V hI HX
      unfold Ey.Wd.val at k1 k3 k5 k7
      unfold Hd.val at k2 k4 k6
      dsimp only [h0, m0] at k1 k2 k3 k4 k5 k6 HP
      go_wp2_with fail
      refine (k1.out wr (Below.refl _ _)).mono ?_
      rintro e y1 ⟨rfl, hb⟩
      have hy := hb
      have c0 := cellB c0 hb
      have c1 := cellB c1 hb
      have c2 := cellB c2 hb
      have c3 := cellB c3 hb
      have c4 := cellB c4 hb
      have c5 := cellB c5 hb
      have c6 := cellB c6 hb
      have c7 := cellB c7 hb
      have p0 := cellB p0 hb
      have p1 := cellB p1 hb
      have p2 := cellB p2 hb
      have p3 := cellB p3 hb
      have p4 := cellB p4 hb
      have p5 := cellB p5 hb
      have p6 := cellB p6 hb
      have p7 := cellB p7 hb
      have m0' := cellB m0' hb
      have m1' := cellB m1' hb
      have m2' := cellB m2' hb
      have m3' := cellB m3' hb
      have m4' := cellB m4' hb
      have m5' := cellB m5' hb
      have m6' := cellB m6' hb
      clear hb
      go_wp2_with fail
      refine (k2.out y1 hy).mono ?_
      rintro e y2 ⟨rfl, hb⟩
      have hy := hy.trans (hb.mono hy.size)
      have c0 := cellB c0 hb
      have c1 := cellB c1 hb
      have c2 := cellB c2 hb
      have c3 := cellB c3 hb
      have c4 := cellB c4 hb
      have c5 := cellB c5 hb
      have c6 := cellB c6 hb
      have c7 := cellB c7 hb
      have p0 := cellB p0 hb
      have p1 := cellB p1 hb
      have p2 := cellB p2 hb
      have p3 := cellB p3 hb
      have p4 := cellB p4 hb
      have p5 := cellB p5 hb
      have p6 := cellB p6 hb
      have p7 := cellB p7 hb
      have m0' := cellB m0' hb
      have m1' := cellB m1' hb
      have m2' := cellB m2' hb
      have m3' := cellB m3' hb
      have m4' := cellB m4' hb
      have m5' := cellB m5' hb
      have m6' := cellB m6' hb
      clear hb
      go_wp2_with fail
      refine (k3.out y2 hy).mono ?_
      rintro e y3 ⟨rfl, hb⟩
      have hy := hy.trans (hb.mono hy.size)
      have c0 := cellB c0 hb
      have c1 := cellB c1 hb
      have c2 := cellB c2 hb
      have c3 := cellB c3 hb
      have c4 := cellB c4 hb
      have c5 := cellB c5 hb
      have c6 := cellB c6 hb
      have c7 := cellB c7 hb
      have p0 := cellB p0 hb
      have p1 := cellB p1 hb
      have p2 := cellB p2 hb
      have p3 := cellB p3 hb
      have p4 := cellB p4 hb
      have p5 := cellB p5 hb
      have p6 := cellB p6 hb
      have p7 := cellB p7 hb
      have m0' := cellB m0' hb
      have m1' := cellB m1' hb
      have m2' := cellB m2' hb
      have m3' := cellB m3' hb
      have m4' := cellB m4' hb
      have m5' := cellB m5' hb
      have m6' := cellB m6' hb
      clear hb
      go_wp2_with fail
      refine (k4.out y3 hy).mono ?_
      rintro e y4 ⟨rfl, hb⟩
      have hy := hy.trans (hb.mono hy.size)
      have c0 := cellB c0 hb
      have c1 := cellB c1 hb
      have c2 := cellB c2 hb
      have c3 := cellB c3 hb
      have c4 := cellB c4 hb
      have c5 := cellB c5 hb
      have c6 := cellB c6 hb
      have c7 := cellB c7 hb
      have p0 := cellB p0 hb
      have p1 := cellB p1 hb
      have p2 := cellB p2 hb
      have p3 := cellB p3 hb
      have p4 := cellB p4 hb
      have p5 := cellB p5 hb
      have p6 := cellB p6 hb
      have p7 := cellB p7 hb
      have m0' := cellB m0' hb
      have m1' := cellB m1' hb
      have m2' := cellB m2' hb
      have m3' := cellB m3' hb
      have m4' := cellB m4' hb
      have m5' := cellB m5' hb
      have m6' := cellB m6' hb
      clear hb
      clear k1 k2 k3 k4
      have him0 : 0 ≤ h.images := by rw [HI.out]; omega
      have him6 : h.images ≤ 6 := by rw [HI.out]; omega
      go_wp2_with fail
      have HY := Lib.hid hy
      clear hy hl0 hl1
      go_loopw [112] (fun i wz => ∃ k : Nat, k ≤ I ∧ i = .int .i64 k ∧ Below y4.heap.size y4 wz) (fun i _ => I - (intOf i).toNat)
      case atStart => exact ⟨0, by omega, rfl, Below.refl _ _⟩
      case round =>
        obtain ⟨k, hk, rfl, hB⟩ := hrel
        have hk0 : (0 : Int) ≤ (k : Int) := by omega
        have hy := HY.out.trans (hB.mono HY.out.size)
        have hq := hB
        have c0 := cellB c0 hB
        have c1 := cellB c1 hB
        have c2 := cellB c2 hB
        have c3 := cellB c3 hB
        have c4 := cellB c4 hB
        have c5 := cellB c5 hB
        have c6 := cellB c6 hB
        have c7 := cellB c7 hB
        have p0 := cellB p0 hB
        have p1 := cellB p1 hB
        have p2 := cellB p2 hB
        have p3 := cellB p3 hB
        have p4 := cellB p4 hB
        have p5 := cellB p5 hB
        have p6 := cellB p6 hB
        have p7 := cellB p7 hB
        have m0' := cellB m0' hB
        have m1' := cellB m1' hB
        have m2' := cellB m2' hB
        have m3' := cellB m3' hB
        have m4' := cellB m4' hB
        have m5' := cellB m5' hB
        have m6' := cellB m6' hB
        clear hB
        by_cases hlt : k < I
        · have hlti : (k : Int) < h.images := by rw [HI.out]; omega
          obtain ⟨lo, hi', c, a, b, d, e1, e2, e3, e4⟩ := HP.out k hlti
          have k5 := k5.out k
          have k6 := k6.out k
          have k7 := k7.out k
          rw [e1] at k5
          rw [e2] at k6
          rw [e3] at k7
          have k5 := Lib.hid k5
          have k6 := Lib.hid k6
          have k7 := Lib.hid k7
          have E4 := Lib.hid e4
          have HYr := Lib.hid hy
          clear e1 e2 e3 e4 HP
          have hkk : k ≤ 6 := by omega
          go_wp2_with fail
          refine (k5.out _ hy).mono ?_
          rintro e z1 ⟨rfl, hb⟩
          have hy := hy.trans (hb.mono hy.size)
          have hq := hq.trans (hb.mono hq.size)
          have c0 := cellB c0 hb
          have c1 := cellB c1 hb
          have c2 := cellB c2 hb
          have c3 := cellB c3 hb
          have c4 := cellB c4 hb
          have c5 := cellB c5 hb
          have c6 := cellB c6 hb
          have c7 := cellB c7 hb
          have p0 := cellB p0 hb
          have p1 := cellB p1 hb
          have p2 := cellB p2 hb
          have p3 := cellB p3 hb
          have p4 := cellB p4 hb
          have p5 := cellB p5 hb
          have p6 := cellB p6 hb
          have p7 := cellB p7 hb
          have m0' := cellB m0' hb
          have m1' := cellB m1' hb
          have m2' := cellB m2' hb
          have m3' := cellB m3' hb
          have m4' := cellB m4' hb
          have m5' := cellB m5' hb
          have m6' := cellB m6' hb
          obtain ⟨s0, _, s1, _⟩ := two_new z1 lo hi'
          have hn := newB z1 (.cells #[.int .i64 lo, .int .i64 hi'] 24)
          have hy := hy.trans (hn.mono hy.size)
          have hq := hq.trans (hn.mono hq.size)
          have c0 := cellB c0 hn
          have c1 := cellB c1 hn
          have c2 := cellB c2 hn
          have c3 := cellB c3 hn
          have c4 := cellB c4 hn
          have c5 := cellB c5 hn
          have c6 := cellB c6 hn
          have c7 := cellB c7 hn
          have p0 := cellB p0 hn
          have p1 := cellB p1 hn
          have p2 := cellB p2 hn
          have p3 := cellB p3 hn
          have p4 := cellB p4 hn
          have p5 := cellB p5 hn
          have p6 := cellB p6 hn
          have p7 := cellB p7 hn
          have m0' := cellB m0' hn
          have m1' := cellB m1' hn
          have m2' := cellB m2' hn
          have m3' := cellB m3' hn
          have m4' := cellB m4' hn
          have m5' := cellB m5' hn
          have m6' := cellB m6' hn
          clear hn hb
          go_wp2_with fail
          refine (k6.out _ hy).mono ?_
          rintro e z2 ⟨rfl, hb⟩
          have hy := hy.trans (hb.mono hy.size)
          have hq := hq.trans (hb.mono hq.size)
          have c0 := cellB c0 hb
          have c1 := cellB c1 hb
          have c2 := cellB c2 hb
          have c3 := cellB c3 hb
          have c4 := cellB c4 hb
          have c5 := cellB c5 hb
          have c6 := cellB c6 hb
          have c7 := cellB c7 hb
          have p0 := cellB p0 hb
          have p1 := cellB p1 hb
          have p2 := cellB p2 hb
          have p3 := cellB p3 hb
          have p4 := cellB p4 hb
          have p5 := cellB p5 hb
          have p6 := cellB p6 hb
          have p7 := cellB p7 hb
          have m0' := cellB m0' hb
          have m1' := cellB m1' hb
          have m2' := cellB m2' hb
          have m3' := cellB m3' hb
          have m4' := cellB m4' hb
          have m5' := cellB m5' hb
          have m6' := cellB m6' hb
          have s0 := cellB s0 hb
          have s1 := cellB s1 hb
          obtain ⟨t0, _, t1, _⟩ := two_new z2 lo hi'
          have hn := newB z2 (.cells #[.int .i64 lo, .int .i64 hi'] 24)
          have hy := hy.trans (hn.mono hy.size)
          have hq := hq.trans (hn.mono hq.size)
          have c0 := cellB c0 hn
          have c1 := cellB c1 hn
          have c2 := cellB c2 hn
          have c3 := cellB c3 hn
          have c4 := cellB c4 hn
          have c5 := cellB c5 hn
          have c6 := cellB c6 hn
          have c7 := cellB c7 hn
          have p0 := cellB p0 hn
          have p1 := cellB p1 hn
          have p2 := cellB p2 hn
          have p3 := cellB p3 hn
          have p4 := cellB p4 hn
          have p5 := cellB p5 hn
          have p6 := cellB p6 hn
          have p7 := cellB p7 hn
          have m0' := cellB m0' hn
          have m1' := cellB m1' hn
          have m2' := cellB m2' hn
          have m3' := cellB m3' hn
          have m4' := cellB m4' hn
          have m5' := cellB m5' hn
          have m6' := cellB m6' hn
          have s0 := cellB s0 hn
          have s1 := cellB s1 hn
          clear hn hb
          go_wp2_with fail
          refine (k7.out _ hy).mono ?_
          rintro e z3 ⟨rfl, hb⟩
          have hy := hy.trans (hb.mono hy.size)
          have hq := hq.trans (hb.mono hq.size)
          have c0 := cellB c0 hb
          have c1 := cellB c1 hb
          have c2 := cellB c2 hb
          have c3 := cellB c3 hb
          have c4 := cellB c4 hb
          have c5 := cellB c5 hb
          have c6 := cellB c6 hb
          have c7 := cellB c7 hb
          have p0 := cellB p0 hb
          have p1 := cellB p1 hb
          have p2 := cellB p2 hb
          have p3 := cellB p3 hb
          have p4 := cellB p4 hb
          have p5 := cellB p5 hb
          have p6 := cellB p6 hb
          have p7 := cellB p7 hb
          have m0' := cellB m0' hb
          have m1' := cellB m1' hb
          have m2' := cellB m2' hb
          have m3' := cellB m3' hb
          have m4' := cellB m4' hb
          have m5' := cellB m5' hb
          have m6' := cellB m6' hb
          have s0 := cellB s0 hb
          have s1 := cellB s1 hb
          obtain ⟨u0, _, u1, _⟩ := two_new z3 a b
          have hn := newB z3 (.cells #[.int .i64 a, .int .i64 b] 24)
          have hy := hy.trans (hn.mono hy.size)
          have hq := hq.trans (hn.mono hq.size)
          have c0 := cellB c0 hn
          have c1 := cellB c1 hn
          have c2 := cellB c2 hn
          have c3 := cellB c3 hn
          have c4 := cellB c4 hn
          have c5 := cellB c5 hn
          have c6 := cellB c6 hn
          have c7 := cellB c7 hn
          have p0 := cellB p0 hn
          have p1 := cellB p1 hn
          have p2 := cellB p2 hn
          have p3 := cellB p3 hn
          have p4 := cellB p4 hn
          have p5 := cellB p5 hn
          have p6 := cellB p6 hn
          have p7 := cellB p7 hn
          have m0' := cellB m0' hn
          have m1' := cellB m1' hn
          have m2' := cellB m2' hn
          have m3' := cellB m3' hn
          have m4' := cellB m4' hn
          have m5' := cellB m5' hn
          have m6' := cellB m6' hn
          have s0 := cellB s0 hn
          have s1 := cellB s1 hn
          clear hn hb
          have hBz := Lib.hid hy
          by_cases hc0 : c = 0
          · subst hc0
            obtain ⟨rfl, ha, hb⟩ := E4.out rfl
            have g1 : ¬ a > lo := by omega
            have g2 : ¬ b < hi' := by omega
            clear k5 k6 k7 E4
            go_wp2_with fail
            go_roundw
            case rel => exact ⟨k + 1, by omega, by go_num, hq⟩
            case measure => simp [intOf]; omega
          · have hcb : (c == 0) = false := beq_eq_false_iff_ne.2 hc0
            clear k5 k6 k7 E4
            go_wp2_with fail
            go_roundw
            case rel => exact ⟨k + 1, by omega, by go_num, hq⟩
            case measure => simp [intOf]; omega
        · obtain rfl : I = k := by omega
          have hgt : ¬ ((I : Nat) : Int) < h.images := by rw [HI.out]; omega
          have hB9 := HBW.out.trans (hy.mono HBW.out.size)
          go_wp2_with fail
          refine (awake03_any _).mono ?_
          rintro e w9 ⟨rfl, hb9⟩
          have hB10 := hB9.trans (hb9.mono hB9.size)
          go_wp2
          go_ret
          exact ⟨rfl, hB10⟩
end Ta
end Go.Proofs.YtcfjakifeihbpaaGreat
